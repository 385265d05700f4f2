/- Several texts of mine, laid together. No statement of the seat is proved here. -/
import Derived.Test.YtjndcfamfminkarSkOk
import Derived.Deep.RegionHeld3
import Derived.Deep.AppendLies
import Derived.Test.YtjndcfamfminkarTallyB
import Derived.Test.YtjndcfamfminkarArrEq
import Derived.Test.YtjndcfamfminkarBase
import Derived.Laws.BitsAllLaws
import Derived.Deep.QuietTactic
import Derived.BigQuiet
import Derived.Test.YtjndcfamfminkarSkLaw
import Derived.Test.YtjndcfamfminkarFrModel
import Derived.Test.YtjndcfamfminkarPutNum
import Derived.WalkKit
import Derived.Defers
import Derived.Recover
import Derived.Laws.Pointers
import Derived.Lib.SlBytesConst
import Derived.ArgAppend
import Derived.Deep.RegionLawGrows
import Derived.Test.YtjndcfamfminkarItHelp
import Derived.Test.YtjndcfamfminkarLstCopy
import Derived.Test.YtjndcfamfminkarSpModel
import Derived.Laws.CopyOwn
import Derived.OrdersHeld
import Derived.Laws.AppendOwnNone
import Derived.Test.YtjndcfamfminkarAgData
import Derived.Test.YtjndcfamfminkarAgOk
import Derived.Test.YtjndcfamfminkarStop
import Derived.Test.YtjndcfamfminkarItModel
import Derived.Maps.AppendAt
import Derived.BigRegion
import Derived.Laws.StructEq
import Derived.WalkMore
import Derived.ScopeJumps
import Derived.StillTactics
import Derived.Test.YtjndcfamfminkarAgVar
/- The walks through the model's helpers of a merging. No statement of the seat is proved here. -/
namespace Go.Proofs.Ytjndcfamfminkar
open Go.RowKit
theorem rdI_of_own {w : World} {B e n : Nat} {v : Value} {zs : List Int} (h : w.ownsRow B e 1 v n (zs.map (Value.int .i64))) : ∃ a cap F, v = .slice a n cap ∧ RdI w a n zs F ∧ Own B w F := by
  rcases h.2 with ⟨h1, h2⟩ | ⟨g, cap, cur, h1, _⟩
  · subst h2
    exact ⟨none, 0, [], h1, ⟨by simpa using h.1, .inl ⟨rfl, rfl⟩⟩, Own.nil⟩
  · subst h1
    obtain ⟨F, hr, ho, _⟩ := RdI.of_own h
    exact ⟨_, cap, F, rfl, hr, ho⟩
theorem own_empty (w : World) (e : TypeId) : (w.alloc (.cells #[] e)).ownsRow w.heap.size e 1 (.slice (some ⟨w.heap.size, 0, none⟩) 0 0) 0 [] :=
  ⟨rfl, .inr ⟨w.heap.size, 0, #[], rfl, Nat.le_refl _, Blk.made w #[] e, Nat.le_refl _, by simp, rfl, rfl⟩⟩
end Go.Proofs.Ytjndcfamfminkar
/- Two rows of numbers of the program's own kind, compared; a summary that is right. No statement of the seat is proved here. -/
namespace Go.Proofs.Ytjndcfamfminkar
open Go.RowKit
set_option maxRecDepth 200000 in
set_option maxHeartbeats 2000000 in
theorem same_any (xs ys : List Int) (w : World) (hx : xs.length = 28) (hy : ys.length = 28) :
    Calls Try.prog 107 #[.agg (tc xs), .agg (tc ys)] w fun e w' => e = .returned (.bool (decide (xs = ys))) ∧ Below w.heap.size w w' := by
  have HL : Hid (xs.length = 28 ∧ ys.length = 28) := ⟨hx, hy⟩
  have HT : Hid (_ ∧ _ ∧ _) := two_made w (tc xs) (tc ys) 125 125
  obtain ⟨d, hd⟩ : ∃ d, d = decide (xs = ys) := ⟨_, rfl⟩
  rw [← hd]
  have HD : Hid (d = decide (xs = ys)) := hd
  obtain ⟨x0, hx0⟩ : ∃ x, x = xs.getD 0 0 := ⟨_, rfl⟩
  obtain ⟨x1, hx1⟩ : ∃ x, x = xs.getD 1 0 := ⟨_, rfl⟩
  obtain ⟨x2, hx2⟩ : ∃ x, x = xs.getD 2 0 := ⟨_, rfl⟩
  obtain ⟨x3, hx3⟩ : ∃ x, x = xs.getD 3 0 := ⟨_, rfl⟩
  obtain ⟨y0, hy0⟩ : ∃ x, x = ys.getD 0 0 := ⟨_, rfl⟩
  obtain ⟨y1, hy1⟩ : ∃ x, x = ys.getD 1 0 := ⟨_, rfl⟩
  obtain ⟨y2, hy2⟩ : ∃ x, x = ys.getD 2 0 := ⟨_, rfl⟩
  obtain ⟨y3, hy3⟩ : ∃ x, x = ys.getD 3 0 := ⟨_, rfl⟩
  have a0 : (tc xs)[0]? = some (.int .i64 x0) := by rw [hx0]; exact tc_get (by omega)
  have a1 : (tc xs)[1]? = some (.int .i64 x1) := by rw [hx1]; exact tc_get (by omega)
  have a2 : (tc xs)[2]? = some (.int .i64 x2) := by rw [hx2]; exact tc_get (by omega)
  have a3 : (tc xs)[3]? = some (.int .i64 x3) := by rw [hx3]; exact tc_get (by omega)
  have b0 : (tc ys)[0]? = some (.int .i64 y0) := by rw [hy0]; exact tc_get (by omega)
  have b1 : (tc ys)[1]? = some (.int .i64 y1) := by rw [hy1]; exact tc_get (by omega)
  have b2 : (tc ys)[2]? = some (.int .i64 y2) := by rw [hy2]; exact tc_get (by omega)
  have b3 : (tc ys)[3]? = some (.int .i64 y3) := by rw [hy3]; exact tc_get (by omega)
  have HX : Hid ((x0 = xs.getD 0 0 ∧ y0 = ys.getD 0 0) ∧ (x1 = xs.getD 1 0 ∧ y1 = ys.getD 1 0) ∧ (x2 = xs.getD 2 0 ∧ y2 = ys.getD 2 0) ∧ (x3 = xs.getD 3 0 ∧ y3 = ys.getD 3 0)) := ⟨⟨hx0, hy0⟩, ⟨hx1, hy1⟩, ⟨hx2, hy2⟩, ⟨hx3, hy3⟩⟩
  clear hx hy hd hx0 hx1 hx2 hx3 hy0 hy1 hy2 hy3
  go_enter Try.func107, Try.ntmps107
  by_cases q0 : x0 = y0
  rotate_left
  · have q0' : (x0 == y0) = false := by simpa using q0
    have HN : Hid (d = false) := by show d = _; rw [HD.out]; exact dec_false (fun e => q0 (by rw [HX.out.1.1, HX.out.1.2, e]))
    clear q0
    go_wp2
    go_ret
    exact ⟨ret_bool HN.out.symm, HT.out.2.2⟩
  have Q0 : Hid (x0 = y0) := q0
  have q0' : (x0 == y0) = true := by simpa using q0
  clear q0
  by_cases q1 : x1 = y1
  rotate_left
  · have q1' : (x1 == y1) = false := by simpa using q1
    have HN : Hid (d = false) := by show d = _; rw [HD.out]; exact dec_false (fun e => q1 (by rw [HX.out.2.1.1, HX.out.2.1.2, e]))
    clear q1
    go_wp2
    go_ret
    exact ⟨ret_bool HN.out.symm, HT.out.2.2⟩
  have Q1 : Hid (x1 = y1) := q1
  have q1' : (x1 == y1) = true := by simpa using q1
  clear q1
  by_cases q2 : x2 = y2
  rotate_left
  · have q2' : (x2 == y2) = false := by simpa using q2
    have HN : Hid (d = false) := by show d = _; rw [HD.out]; exact dec_false (fun e => q2 (by rw [HX.out.2.2.1.1, HX.out.2.2.1.2, e]))
    clear q2
    go_wp2
    go_ret
    exact ⟨ret_bool HN.out.symm, HT.out.2.2⟩
  have Q2 : Hid (x2 = y2) := q2
  have q2' : (x2 == y2) = true := by simpa using q2
  clear q2
  by_cases q3 : x3 = y3
  rotate_left
  · have q3' : (x3 == y3) = false := by simpa using q3
    have HN : Hid (d = false) := by show d = _; rw [HD.out]; exact dec_false (fun e => q3 (by rw [HX.out.2.2.2.1, HX.out.2.2.2.2, e]))
    clear q3
    go_wp2
    go_ret
    exact ⟨ret_bool HN.out.symm, HT.out.2.2⟩
  have Q3 : Hid (x3 = y3) := q3
  have q3' : (x3 == y3) = true := by simpa using q3
  clear q3
  go_wp2_with (first | go_skip | (with_reducible refine stopLoad 121 rfl ?_))
  refine load_part 121 w.heap.size 4 8 xs 125 _ HT.out.1 rfl rfl rfl Try.underlying121 rfl (by kernel_rfl) (by rw [HL.out.1]; omega) ?_
  go_wp2_with (first | go_skip | (with_reducible refine stopLoad 121 rfl ?_))
  refine load_part 121 (w.heap.size + 1) 4 8 ys 125 _ HT.out.2.1 rfl rfl rfl Try.underlying121 rfl (by kernel_rfl) (by rw [HL.out.2]; omega) ?_
  have hq0 : ∀ w, (Op.equalIn 10000 121 (.agg (tc ((xs.drop 4).take 8))) (.agg (tc ((ys.drop 4).take 8)))).run Try.prog w = .ok (decide ((xs.drop 4).take 8 = (ys.drop 4).take 8)) w := fun w => run_eq_ints w 9998 121 3 8 _ _ Try.underlying121 Try.underlying3 (fun _ => by simp) (by simp; have := HL.out.1; omega) (by simp; have := HL.out.2; omega)
  cases q4 : decide ((xs.drop 4).take 8 = (ys.drop 4).take 8)
  · rw [q4] at hq0
    have HN : Hid (d = false) := by show d = _; rw [HD.out]; exact dec_false (fun e => by rw [e] at q4; simp at q4)
    clear q4
    go_wp2
    go_ret
    exact ⟨ret_bool HN.out.symm, HT.out.2.2⟩
  rw [q4] at hq0
  have Q4 : Hid ((xs.drop 4).take 8 = (ys.drop 4).take 8) := (show (xs.drop 4).take 8 = (ys.drop 4).take 8 from of_decide_eq_true q4)
  clear q4
  go_wp2_with (first | go_skip | (with_reducible refine stopLoad 121 rfl ?_))
  refine load_part 121 w.heap.size 12 8 xs 125 _ HT.out.1 rfl rfl rfl Try.underlying121 rfl (by kernel_rfl) (by rw [HL.out.1]; omega) ?_
  go_wp2_with (first | go_skip | (with_reducible refine stopLoad 121 rfl ?_))
  refine load_part 121 (w.heap.size + 1) 12 8 ys 125 _ HT.out.2.1 rfl rfl rfl Try.underlying121 rfl (by kernel_rfl) (by rw [HL.out.2]; omega) ?_
  have hq1 : ∀ w, (Op.equalIn 10000 121 (.agg (tc ((xs.drop 12).take 8))) (.agg (tc ((ys.drop 12).take 8)))).run Try.prog w = .ok (decide ((xs.drop 12).take 8 = (ys.drop 12).take 8)) w := fun w => run_eq_ints w 9998 121 3 8 _ _ Try.underlying121 Try.underlying3 (fun _ => by simp) (by simp; have := HL.out.1; omega) (by simp; have := HL.out.2; omega)
  cases q5 : decide ((xs.drop 12).take 8 = (ys.drop 12).take 8)
  · rw [q5] at hq1
    have HN : Hid (d = false) := by show d = _; rw [HD.out]; exact dec_false (fun e => by rw [e] at q5; simp at q5)
    clear q5
    go_wp2
    go_ret
    exact ⟨ret_bool HN.out.symm, HT.out.2.2⟩
  rw [q5] at hq1
  have Q5 : Hid ((xs.drop 12).take 8 = (ys.drop 12).take 8) := (show (xs.drop 12).take 8 = (ys.drop 12).take 8 from of_decide_eq_true q5)
  clear q5
  go_wp2_with (first | go_skip | (with_reducible refine stopLoad 123 rfl ?_))
  refine load_part 123 w.heap.size 20 8 xs 125 _ HT.out.1 rfl rfl rfl Try.underlying123 rfl (by kernel_rfl) (by rw [HL.out.1]; omega) ?_
  go_wp2_with (first | go_skip | (with_reducible refine stopLoad 123 rfl ?_))
  refine load_part 123 (w.heap.size + 1) 20 8 ys 125 _ HT.out.2.1 rfl rfl rfl Try.underlying123 rfl (by kernel_rfl) (by rw [HL.out.2]; omega) ?_
  have hq2 : ∀ w, (Op.equalIn 10000 123 (.agg (tc ((xs.drop 20).take 8))) (.agg (tc ((ys.drop 20).take 8)))).run Try.prog w = .ok (decide ((xs.drop 20).take 8 = (ys.drop 20).take 8)) w := fun w => run_eq_rows w 9997 123 122 3 _ _ Try.underlying123 Try.underlying122 Try.underlying3 (fun _ => by simp) (fun _ => by simp) (by simp; have := HL.out.1; omega) (by simp; have := HL.out.2; omega)
  cases q6 : decide ((xs.drop 20).take 8 = (ys.drop 20).take 8)
  · rw [q6] at hq2
    have HN : Hid (d = false) := by show d = _; rw [HD.out]; exact dec_false (fun e => by rw [e] at q6; simp at q6)
    clear q6
    go_wp2
    go_ret
    exact ⟨ret_bool HN.out.symm, HT.out.2.2⟩
  rw [q6] at hq2
  have Q6 : Hid ((xs.drop 20).take 8 = (ys.drop 20).take 8) := (show (xs.drop 20).take 8 = (ys.drop 20).take 8 from of_decide_eq_true q6)
  clear q6
  have HN : Hid (d = true) := by show d = _; rw [HD.out]; exact dec_true (eq28 HL.out.1 HL.out.2 (by rw [← HX.out.1.1, ← HX.out.1.2]; exact Q0.out) (by rw [← HX.out.2.1.1, ← HX.out.2.1.2]; exact Q1.out) (by rw [← HX.out.2.2.1.1, ← HX.out.2.2.1.2]; exact Q2.out) (by rw [← HX.out.2.2.2.1, ← HX.out.2.2.2.2]; exact Q3.out) Q4.out Q5.out Q6.out)
  go_wp2
  go_ret
  exact ⟨ret_bool HN.out.symm, HT.out.2.2⟩
end Go.Proofs.Ytjndcfamfminkar
/- The program's look at all numbers of its row. No statement of the seat is proved here. -/
namespace Go.Proofs.Ytjndcfamfminkar
open Go.RowKit
def inB (xs : List Int) : Bool :=
  decide (0 ≤ xs.getD 0 0 ∧ xs.getD 0 0 ≤ 1000000000) && decide (0 ≤ xs.getD 1 0 ∧ xs.getD 1 0 ≤ 1000000000) && decide (0 ≤ xs.getD 2 0 ∧ xs.getD 2 0 ≤ 1000000) && decide (0 ≤ xs.getD 3 0 ∧ xs.getD 3 0 ≤ 1000000) &&
  ((xs.drop 20).take 4).all (okN 1000000000 false) && ((xs.drop 24).take 4).all (okN 1000000000 false) && ((xs.drop 4).take 8).all (okN 1000000000 false) && ((xs.drop 12).take 8).all (okN 17 false)
theorem rdI_tc {W : World} {g off n : Nat} {xs : List Int} {t : TypeId} (h : Blk W g (tc xs) t) (hfit : off + n ≤ xs.length) (hp : 0 < n) : RdI W (some ⟨g, off, none⟩) n ((xs.drop off).take n) [g] := by
  refine ⟨by simp; omega, .inr ⟨g, off, hp, rfl, rfl, fun i hi => ?_⟩⟩
  rw [h.cell, tc_get (by omega)]
  simp [hi]
theorem rdI_tc0 {W : World} {g n : Nat} {xs : List Int} {t : TypeId} (h : Blk W g (tc xs) t) (hn : xs.length = n) (hp : 0 < n) : RdI W (some ⟨g, 0, none⟩) n xs [g] := by
  have := rdI_tc h (off := 0) (n := n) (by omega) hp
  rw [List.drop_zero, List.take_of_length_le (by omega)] at this
  exact this
theorem run_index_row {P : Program} (w : World) (t u e : TypeId) (zs : List Int) (i : Int) (n : Nat) (hn : i = n) (h2 : n < 2) (ht : P.underlying t = some (.array 2 u)) (hu : P.underlying u = some (.array 4 e)) (hs : ∀ w, (sizeOf u).run P w = .ok 4 w) :
    (Instr.index t (.agg (tc zs)) (.int .i64 i)).run P w = .ok (.agg (tc ((zs.drop (n * 4)).take 4))) w := by
  have hagg : (isAgg u).run P w = .ok true w := by unfold isAgg; rw [Sem.run_bind, run_underlying hu w]; simp
  subst hn
  have h3 : (0 : Int) ≤ n ∧ (n : Int) < 2 := by omega
  unfold Instr.index part
  simp [asIntOf, run_underlying ht, Sem.run_bind, h3, hs, hagg, tc_extract]
  intro h; omega
set_option maxRecDepth 200000 in
set_option maxHeartbeats 2000000 in
theorem inBounds_any (xs : List Int) (w : World) (hx : xs.length = 28) :
    Calls Try.prog 106 #[.agg (tc xs)] w fun e w' => e = .returned (.bool (inB xs)) ∧ Below w.heap.size w w' := by
  have HL : Hid (xs.length = 28) := hx
  have HT : Hid (Blk (w.alloc (.cells (tc xs) 125)) w.heap.size (tc xs) 125 ∧ Below w.heap.size w (w.alloc (.cells (tc xs) 125))) := ⟨Blk.made _ _ _, (Below.refl _ _).alloc (Nat.le_refl _) _⟩
  obtain ⟨d, hd⟩ : ∃ d, d = inB xs := ⟨_, rfl⟩
  rw [← hd]
  have HD : Hid (d = inB xs) := hd
  obtain ⟨x0, hx0⟩ : ∃ x, x = xs.getD 0 0 := ⟨_, rfl⟩
  obtain ⟨x1, hx1⟩ : ∃ x, x = xs.getD 1 0 := ⟨_, rfl⟩
  obtain ⟨x2, hx2⟩ : ∃ x, x = xs.getD 2 0 := ⟨_, rfl⟩
  obtain ⟨x3, hx3⟩ : ∃ x, x = xs.getD 3 0 := ⟨_, rfl⟩
  have a0 : (tc xs)[0]? = some (.int .i64 x0) := by rw [hx0]; exact tc_get (by omega)
  have a1 : (tc xs)[1]? = some (.int .i64 x1) := by rw [hx1]; exact tc_get (by omega)
  have a2 : (tc xs)[2]? = some (.int .i64 x2) := by rw [hx2]; exact tc_get (by omega)
  have a3 : (tc xs)[3]? = some (.int .i64 x3) := by rw [hx3]; exact tc_get (by omega)
  have HX : Hid (x0 = xs.getD 0 0 ∧ x1 = xs.getD 1 0 ∧ x2 = xs.getD 2 0 ∧ x3 = xs.getD 3 0) := ⟨hx0, hx1, hx2, hx3⟩
  clear hx hd hx0 hx1 hx2 hx3
  go_enter Try.func106, Try.ntmps106
  go_wp2_with fail
  refine (inRange_any _ _ _).mono ?_
  rintro e w1 ⟨rfl, hw1⟩
  have hw1' := hw1.symm
  subst hw1'
  clear hw1
  by_cases p0 : 0 ≤ x0 ∧ x0 ≤ 1000000000
  rotate_left
  · rw [dec_false p0]
    have HN : Hid (d = false) := by show d = _; rw [HD.out]; unfold inB; rw [← HX.out.1, dec_false p0]; simp
    clear p0
    go_wp2
    go_ret
    exact ⟨ret_bool HN.out.symm, HT.out.2⟩
  rw [dec_true p0]
  have P0 : Hid (decide (0 ≤ x0 ∧ x0 ≤ 1000000000) = true) := dec_true p0
  clear p0
  go_wp2_with fail
  refine (inRange_any _ _ _).mono ?_
  rintro e w1 ⟨rfl, hw1⟩
  have hw1' := hw1.symm
  subst hw1'
  clear hw1
  by_cases p1 : 0 ≤ x1 ∧ x1 ≤ 1000000000
  rotate_left
  · rw [dec_false p1]
    have HN : Hid (d = false) := by show d = _; rw [HD.out]; unfold inB; rw [← HX.out.2.1, dec_false p1]; simp
    clear p1
    go_wp2
    go_ret
    exact ⟨ret_bool HN.out.symm, HT.out.2⟩
  rw [dec_true p1]
  have P1 : Hid (decide (0 ≤ x1 ∧ x1 ≤ 1000000000) = true) := dec_true p1
  clear p1
  go_wp2_with fail
  refine (inRange_any _ _ _).mono ?_
  rintro e w1 ⟨rfl, hw1⟩
  have hw1' := hw1.symm
  subst hw1'
  clear hw1
  by_cases p2 : 0 ≤ x2 ∧ x2 ≤ 1000000
  rotate_left
  · rw [dec_false p2]
    have HN : Hid (d = false) := by show d = _; rw [HD.out]; unfold inB; rw [← HX.out.2.2.1, dec_false p2]; simp
    clear p2
    go_wp2
    go_ret
    exact ⟨ret_bool HN.out.symm, HT.out.2⟩
  rw [dec_true p2]
  have P2 : Hid (decide (0 ≤ x2 ∧ x2 ≤ 1000000) = true) := dec_true p2
  clear p2
  go_wp2_with fail
  refine (inRange_any _ _ _).mono ?_
  rintro e w1 ⟨rfl, hw1⟩
  have hw1' := hw1.symm
  subst hw1'
  clear hw1
  by_cases p3 : 0 ≤ x3 ∧ x3 ≤ 1000000
  rotate_left
  · rw [dec_false p3]
    have HN : Hid (d = false) := by show d = _; rw [HD.out]; unfold inB; rw [← HX.out.2.2.2, dec_false p3]; simp
    clear p3
    go_wp2
    go_ret
    exact ⟨ret_bool HN.out.symm, HT.out.2⟩
  rw [dec_true p3]
  have P3 : Hid (decide (0 ≤ x3 ∧ x3 ≤ 1000000) = true) := dec_true p3
  clear p3
  go_wp2_with (first | go_skip | (with_reducible refine stopLoad 123 rfl ?_))
  refine load_part 123 w.heap.size 20 8 xs 125 _ HT.out.1 rfl rfl rfl Try.underlying123 rfl (by kernel_rfl) (by rw [HL.out]; omega) ?_
  obtain ⟨A, hA⟩ : ∃ A, A = (xs.drop 20).take 8 := ⟨_, rfl⟩
  rw [← hA]
  obtain ⟨R0, hR0⟩ : ∃ A, A = (xs.drop 20).take 4 := ⟨_, rfl⟩
  obtain ⟨R1, hR1⟩ : ∃ A, A = (xs.drop 24).take 4 := ⟨_, rfl⟩
  have HRE : Hid (R0 = (xs.drop 20).take 4 ∧ R1 = (xs.drop 24).take 4) := ⟨hR0, hR1⟩
  have HRL : Hid (R0.length = 4 ∧ R1.length = 4) := ⟨by rw [hR0]; simp; have := HL.out; omega, by rw [hR1]; simp; have := HL.out; omega⟩
  have i0 : ∀ w, (Instr.index 123 (.agg (tc A)) (.int .i64 0)).run Try.prog w = .ok (.agg (tc R0)) w := fun w => by
    rw [run_index_row w 123 122 3 A 0 0 rfl (by omega) Try.underlying123 Try.underlying122 (fun _ => by simp), hA, hR0]
    simp [List.take_take]
  have i1 : ∀ w, (Instr.index 123 (.agg (tc A)) (.int .i64 1)).run Try.prog w = .ok (.agg (tc R1)) w := fun w => by
    rw [run_index_row w 123 122 3 A 1 1 rfl (by omega) Try.underlying123 Try.underlying122 (fun _ => by simp), hA, hR1]
    rw [List.drop_take, List.drop_drop, List.take_take]
    rfl
  clear hA hR0 hR1
  go_wp2
  refine wp_loop_rounds 3 ?_
  rw [rounds_succ]
  go_wp2_with (first | (with_reducible refine stopStore 122 rfl ?_))
  refine store_fresh 122 (w.heap.size + 1) (by simp) (tc (List.replicate 4 0)) (tc R0) 122 rfl rfl rfl rfl (by rw [tc_size, HRL.out.1]; kernel_rfl) (by rw [tc_size, tc_size, HRL.out.1]; rfl) (tc_one _) ?_
  intro W0 hg0 hb0
  have HB0 : Hid (Below w.heap.size w W0 ∧ Blk W0 w.heap.size (tc xs) 125) := ⟨Below.next HT.out.2 hb0, HT.out.1.below hb0⟩
  have HG0 : Hid (Blk W0 _ (tc R0) 122) := hg0
  clear hg0 hb0
  go_wp2_with fail
  refine (allInRange_any _ 4 _ R0 _ 1000000000 _ (rdI_tc0 HG0.out HRL.out.1 (by omega)) (by omega)).mono ?_
  rintro e w1 ⟨rfl, hw1⟩
  have hw1' := hw1.symm
  subst hw1'
  clear hw1
  cases l0 : R0.all (okN 1000000000 false)
  · have HN : Hid (d = false) := by show d = _; rw [HD.out]; unfold inB; rw [← HRE.out.1, l0]; simp
    clear l0
    go_wp2
    go_ret
    exact ⟨ret_bool HN.out.symm, HB0.out.1⟩
  have L0 : Hid (R0.all (okN 1000000000 false) = true) := l0
  clear l0
  go_wp2_with fail
  rw [rounds_succ]
  go_wp2_with (first | (with_reducible refine stopStore 122 rfl ?_))
  refine store_fresh 122 W0.heap.size rfl (tc (List.replicate 4 0)) (tc R1) 122 rfl rfl rfl rfl (by rw [tc_size, HRL.out.2]; kernel_rfl) (by rw [tc_size, tc_size, HRL.out.2]; rfl) (tc_one _) ?_
  intro W1 hg1 hb1
  have HB1 : Hid (Below w.heap.size w W1 ∧ Blk W1 w.heap.size (tc xs) 125) := ⟨Below.next HB0.out.1 hb1, HB0.out.2.below hb1⟩
  have HG1 : Hid (Blk W1 _ (tc R1) 122) := hg1
  clear hg1 hb1
  go_wp2_with fail
  refine (allInRange_any _ 4 _ R1 _ 1000000000 _ (rdI_tc0 HG1.out HRL.out.2 (by omega)) (by omega)).mono ?_
  rintro e w1 ⟨rfl, hw1⟩
  have hw1' := hw1.symm
  subst hw1'
  clear hw1
  cases l1 : R1.all (okN 1000000000 false)
  · have HN : Hid (d = false) := by show d = _; rw [HD.out]; unfold inB; rw [← HRE.out.2, l1]; simp
    clear l1
    go_wp2
    go_ret
    exact ⟨ret_bool HN.out.symm, HB1.out.1⟩
  have L1 : Hid (R1.all (okN 1000000000 false) = true) := l1
  clear l1
  go_wp2_with fail
  rw [rounds_succ]
  go_wp2_with fail
  refine (allInRange_any _ 8 _ ((xs.drop 4).take 8) _ 1000000000 _ (rdI_tc HB1.out.2 (by have := HL.out; omega) (by omega)) (by omega)).mono ?_
  rintro e w1 ⟨rfl, hw1⟩
  have hw1' := hw1.symm
  subst hw1'
  clear hw1
  cases l2 : ((xs.drop 4).take 8).all (okN 1000000000 false)
  · have HN : Hid (d = false) := by show d = _; rw [HD.out]; unfold inB; rw [l2]; simp
    clear l2
    go_wp2
    go_ret
    exact ⟨ret_bool HN.out.symm, HB1.out.1⟩
  have L2 : Hid (((xs.drop 4).take 8).all (okN 1000000000 false) = true) := l2
  clear l2
  go_wp2_with fail
  refine (allInRange_any _ 8 _ ((xs.drop 12).take 8) _ 17 _ (rdI_tc HB1.out.2 (by have := HL.out; omega) (by omega)) (by omega)).mono ?_
  rintro e w1 ⟨rfl, hw1⟩
  have hw1' := hw1.symm
  subst hw1'
  clear hw1
  obtain ⟨d2, hd2⟩ : ∃ d, d = ((xs.drop 12).take 8).all (okN 17 false) := ⟨_, rfl⟩
  rw [← hd2]
  have HE : Hid (d = d2) := by show d = _; rw [HD.out]; unfold inB; rw [← HX.out.1, ← HX.out.2.1, ← HX.out.2.2.1, ← HX.out.2.2.2, P0.out, P1.out, P2.out, P3.out, ← HRE.out.1, ← HRE.out.2, L0.out, L1.out, L2.out, hd2]; simp
  clear hd2
  go_wp2
  go_ret
  exact ⟨ret_bool HE.out.symm, HB1.out.1⟩
end Go.Proofs.Ytjndcfamfminkar
/- What the program lays out of its row: a summary in memory of its own. No statement of the seat is proved here. -/
namespace Go.Proofs.Ytjndcfamfminkar
open Go.RowKit
theorem Own.blk {B : Nat} {w : World} {F : List Nat} {g : Nat} {cs : Array Value} {t : TypeId} (h : Own B w F) (b : Blk w g cs t) (hg : g ∉ F) (hB : B ≤ g) : Own B w (F ++ [g]) :=
  h.app ⟨by simp, fun x hx o => by (obtain rfl : x = g := by simpa using hx); exact b.frozen o, fun x hx => by (obtain rfl : x = g := by simpa using hx); exact hB⟩ (fun x hx hx' => hg (by (obtain rfl : x = g := by simpa using hx'); exact hx))
end Go.Proofs.Ytjndcfamfminkar
/- The walks through the helpers by which the laws draw their inputs: a cursor over the code's bytes. No statement of the seat is proved here. -/
namespace Go.Proofs.Ytjndcfamfminkar
open Go.RowKit

/-- A cursor that lies in block g, over the bytes zs. -/
structure Cur (w : World) (g : Nat) (a : Option Addr) (len cap : Nat) (zs : List Int) (i h : Int) : Prop where
  c0 : w.cell? ⟨g, 0, none⟩ = some (.slice a len cap)
  c1 : w.cell? ⟨g, 1, none⟩ = some (.int .i64 i)
  c2 : w.cell? ⟨g, 2, none⟩ = some (.int .i64 h)
  f1 : w.frozen? ⟨g, 1, none⟩ = false
  f2 : w.frozen? ⟨g, 2, none⟩ = false
  i0 : 0 ≤ i
  i1 : i ≤ len
  rd : RdB w a len zs
  ap : ∀ x, a = some x → 0 < len → x.block ≠ g


theorem grown_set (w : World) (g j : Nat) (v : Value) : w.grownBy (w.setCell ⟨g, j, none⟩ v) (some g) :=
  ⟨rfl, rfl, rfl, by simp, fun k _ hk => Below.heap_setCell w ⟨g, j, none⟩ v k (fun e => hk (by simp [e]))⟩
theorem Cur.drewN {w : World} {g : Nat} {a : Option Addr} {len cap : Nat} {zs : List Int} {i h : Int} (C : Cur w g a len cap zs i h) (n : Nat) : Cur (w.drewN n) g a len cap zs i h :=
  ⟨C.c0, C.c1, C.c2, C.f1, C.f2, C.i0, C.i1, ⟨C.rd.length, C.rd.range, C.rd.cells⟩, C.ap⟩
theorem RdB.set {w : World} {g j : Nat} {a : Option Addr} {len : Nat} {zs : List Int} (h : RdB w a len zs) (ap : ∀ x, a = some x → 0 < len → x.block ≠ g) (v : Value) : RdB (w.setCell ⟨g, j, none⟩ v) a len zs := by
  refine ⟨h.length, h.range, ?_⟩
  rcases h.cells with h0 | ⟨b, off, ha, hc⟩
  · exact .inl h0
  · refine .inr ⟨b, off, ha, fun i hi => ?_⟩
    have hne : b ≠ g := ap _ ha (by omega)
    rw [World.cell?_setCell_other _ _ _ _ (by intro e; simp only [Addr.mk.injEq] at e; exact hne e.1.symm)]
    exact hc i hi


theorem Cur.below {w w' : World} {g : Nat} {a : Option Addr} {len cap : Nat} {zs : List Int} {i h : Int} (C : Cur w g a len cap zs i h) (hb : Below w.heap.size w w') : Cur w' g a len cap zs i h := by
  have hg : g < w.heap.size := World.block_lt_of_cell? _ _ C.c0
  exact ⟨(hb.cell (p := ⟨g, 0, none⟩) hg).trans C.c0, (hb.cell (p := ⟨g, 1, none⟩) hg).trans C.c1, (hb.cell (p := ⟨g, 2, none⟩) hg).trans C.c2, (hb.frozen (p := ⟨g, 1, none⟩) hg).trans C.f1, (hb.frozen (p := ⟨g, 2, none⟩) hg).trans C.f2, C.i0, C.i1, C.rd.below hb, C.ap⟩
theorem Cur.alloc {w : World} {g : Nat} {a : Option Addr} {len cap : Nat} {zs : List Int} {i h : Int} (C : Cur w g a len cap zs i h) (o : Obj) : Cur (w.alloc o) g a len cap zs i h :=
  C.below ((Below.refl _ _).alloc (Nat.le_refl _) _)

end Go.Proofs.Ytjndcfamfminkar
/- The walks through the picks of one out of a list, which all draws share. No statement of the seat is proved here. -/
namespace Go.Proofs.Ytjndcfamfminkar
open Go.RowKit


end Go.Proofs.Ytjndcfamfminkar
/- The walks through the draws of chapter 3: some list of numbers, some summary. No statement of the seat is proved here. -/
namespace Go.Proofs.Ytjndcfamfminkar
open Go.RowKit
theorem own_keep {w w' : World} {B e size g : Nat} {v : Value} {n : Nat} {xs : List Value} (h : w.ownsRow B e size v n xs) (k : w.grownBy w' (some g)) (hg : g < B) : w'.ownsRow B e size v n xs := by
  refine ⟨h.1, ?_⟩
  rcases h.2 with h' | ⟨b, cap, cur, h1, h2, h3, h4⟩
  · exact .inl h'
  · have hb : b < w.heap.size := (h.lt b (by rw [h1]; rfl)).2
    exact .inr ⟨b, cap, cur, h1, h2, by rw [k.block b hb (fun e => by simp at e; omega)]; exact h3, h4⟩
end Go.Proofs.Ytjndcfamfminkar
/- What lies behind a list, up to its capacity. No statement of the seat is proved here. -/
namespace Go.Proofs.Ytjndcfamfminkar
open Go.RowKit
theorem RdI.at {W : World} {b off n : Nat} {zs : List Int} {F : List Nat} (h : RdI W (some ⟨b, off, none⟩) n zs F) (j : Nat) (hj : j < n) : W.cell? ⟨b, off + j, none⟩ = some (.int .i64 (zs.getD j 0)) := by
  rcases h.cells with ⟨h0, _⟩ | ⟨b', off', _, he, _, hc⟩
  · omega
  · obtain ⟨rfl, rfl⟩ : b = b' ∧ off = off' := by simpa using he
    exact hc j hj
/-- The list of n numbers begins its block, and the block holds as many cells as the list's capacity says. -/
structure Room (W : World) (b o n k : Nat) : Prop where
  off : o = 0
  blk : ∃ cs, Blk W b cs 3 ∧ cs.size = k
  le : n ≤ k
  max : k ≤ maxLen
theorem Room.of_own {W : World} {lo b o n k : Nat} {xs : List Value} (hn : 0 < n) (h : W.ownsRow lo 3 1 (.slice (some ⟨b, o, none⟩) n k) n xs) : Room W b o n k := by
  rcases h.2 with ⟨_, h0⟩ | ⟨g, cap, cur, e, _, hg, h1, h2, h3, _⟩
  · omega
  · cases e
    exact ⟨rfl, ⟨cur, hg, by omega⟩, h1, h2⟩
theorem Room.agree {W W' : World} {b o n k : Nat} (h : Room W b o n k) (e : W'.heap[b]? = W.heap[b]?) : Room W' b o n k := by
  obtain ⟨cs, hb, hs⟩ := h.blk
  exact ⟨h.off, ⟨cs, hb.agree e, hs⟩, h.le, h.max⟩
theorem Room.set {W : World} {b o n k : Nat} (h : Room W b o n k) (b' j : Nat) (v : Value) : Room (W.setCell ⟨b', j, none⟩ v) b o n k := by
  by_cases e : b = b'
  · subst e
    obtain ⟨cs, hb, hs⟩ := h.blk
    exact ⟨h.off, ⟨_, hb.set j v, by simpa using hs⟩, h.le, h.max⟩
  · exact h.agree (Below.heap_setCell W ⟨b', j, none⟩ v b e)
theorem Room.lt {W : World} {b o n k : Nat} (h : Room W b o n k) : b < W.heap.size := by
  obtain ⟨cs, hb, _⟩ := h.blk
  exact hb.lt
theorem Room.below {W W' : World} {b o n k : Nat} (h : Room W b o n k) (hb : Below W.heap.size W W') : Room W' b o n k := h.agree (hb.block b h.lt)
theorem Room.grown {W W' : World} {b o n k q : Nat} (h : Room W b o n k) (hg : W.grownBy W' (some q)) (hq : b ≠ q) : Room W' b o n k := h.agree (hg.block b h.lt (fun e => hq (by simpa using e)))
/-- The same of a list's address; F: its blocks. -/
def RoomS (W : World) (a : Option Addr) (n k : Nat) (F : List Nat) : Prop := ∃ b o, a = some ⟨b, o, none⟩ ∧ F = [b] ∧ Room W b o n k
theorem RoomS.agree {W W' : World} {a : Option Addr} {n k : Nat} {F : List Nat} (h : RoomS W a n k F) (e : Agree W W' F) : RoomS W' a n k F := by
  obtain ⟨b, o, ha, rfl, hr⟩ := h
  exact ⟨b, o, ha, rfl, hr.agree (e b (by simp))⟩
theorem RoomS.below {W W' : World} {a : Option Addr} {n k : Nat} {F : List Nat} (h : RoomS W a n k F) (hb : Below W.heap.size W W') : RoomS W' a n k F := by
  obtain ⟨b, o, ha, rfl, hr⟩ := h
  exact ⟨b, o, ha, rfl, hr.below hb⟩
end Go.Proofs.Ytjndcfamfminkar
/- The walk through the model's copying of a summary. No statement of the seat is proved here. -/
namespace Go.Proofs.Ytjndcfamfminkar
open Go.RowKit
/-- Each list has something, and none is too long. -/
structure Sk.full (s : Sk) : Prop where
  hist : 0 < s.hist.length ∧ s.hist.length ≤ 1048576
  regs : 0 < s.regs.length ∧ s.regs.length ≤ 1048576
  rows : s.rows.length ≤ 1048576
  row : ∀ z ∈ s.rows, 0 < z.length ∧ z.length ≤ 1048576
section
variable {P : Program} {ops : Array Oper} {Q : Exit → Act → World → Prop} {rest : List Oper} {a : Act} {w : World} {x y : Operand} {o : Oper}
theorem stopAppend {ts : Array TypeId} (_ho : o.op = .call { callee := .builtin .append, args := #[x, y], argTypes := ts }) (h : Stop (wpList P ops Q (o :: rest) a w)) : wpList P ops Q (o :: rest) a w := h
end
theorem RdI.from {w W : World} {b off n : Nat} {zs : List Int} {F : List Nat} (h : RdI w (some ⟨b, off, none⟩) n zs F) (hb : Below w.heap.size w W) (hp : 0 < n) : ∀ j v, (zs.map (Value.int .i64))[j]? = some v → W.cell? ((⟨b, off, none⟩ : Addr).add j) = some v := by
  obtain ⟨ad, e, hs⟩ := h.src hb hp
  cases e
  exact hs
/-- The value has room behind its first list, and its rows' capacity is no less than their number. -/
def Roomy (W : World) (v : Value) : Prop := ∃ x0 x1 x2 x3 a1 n1 k1 F x5 a3 n3 k3, v = .agg #[x0, x1, x2, x3, .slice a1 n1 k1, x5, .slice a3 n3 k3] ∧ RoomS W a1 n1 k1 F ∧ n3 ≤ k3
theorem Roomy.below {W W' : World} {v : Value} (h : Roomy W v) (hb : Below W.heap.size W W') : Roomy W' v := by
  obtain ⟨x0, x1, x2, x3, a1, n1, k1, F, x5, a3, n3, k3, e, r, k⟩ := h
  exact ⟨x0, x1, x2, x3, a1, n1, k1, F, x5, a3, n3, k3, e, r.below hb, k⟩
/-- A summary and its room. -/
structure RdR (W : World) (v : Value) (s : Sk) (F : List Nat) : Prop where
  sk : RdSk W v s F
  rm : ∃ x0 x1 x2 x3 a1 n1 k1 F' x5 a3 n3 k3, v = .agg #[x0, x1, x2, x3, .slice a1 n1 k1, x5, .slice a3 n3 k3] ∧ RoomS W a1 n1 k1 F' ∧ (∀ b ∈ F', b ∈ F) ∧ n3 ≤ k3
theorem RdR.cells {W : World} {v : Value} {s : Sk} {F : List Nat} (h : RdR W v s F) : ∃ cs, v = .agg cs ∧ cs.size = 7 ∧ cs.all (·.oneCell') = true := h.sk.cells
theorem RdR.lt {W : World} {v : Value} {s : Sk} {F : List Nat} (h : RdR W v s F) : ∀ b ∈ F, b < W.heap.size := h.sk.lt
theorem RdR.agree {W W' : World} {v : Value} {s : Sk} {F : List Nat} (h : RdR W v s F) (g : Agree W W' F) : RdR W' v s F := by
  obtain ⟨x0, x1, x2, x3, a1, n1, k1, F', x5, a3, n3, k3, e, r, m, k⟩ := h.rm
  exact ⟨h.sk.agree g, x0, x1, x2, x3, a1, n1, k1, F', x5, a3, n3, k3, e, r.agree (fun b hb => g b (m b hb)), m, k⟩
theorem RdR.below {W W' : World} {v : Value} {s : Sk} {F : List Nat} (h : RdR W v s F) (b : Below W.heap.size W W') : RdR W' v s F := h.agree (fun j hj => b.block j (h.lt j hj))
theorem RdR.room {W : World} {v : Value} {s : Sk} {F : List Nat} (h : RdR W v s F) : Roomy W v := by
  obtain ⟨x0, x1, x2, x3, a1, n1, k1, F', x5, a3, n3, k3, e, r, _, k⟩ := h.rm
  exact ⟨x0, x1, x2, x3, a1, n1, k1, F', x5, a3, n3, k3, e, r, k⟩
/-- In the midst of a copying: k rows are done. -/
structure CopySt (w : World) (A : Array Value) (s : Sk) (x1 x2 : Value) (a1 a2 : Option Addr) (n1 n2 d1 d2 : Nat) (F1 F2 : List Nat) (lo k : Nat) (v : Value) (vs : List Value) (G : List Nat) (W : World) : Prop where
  three : Three w A 44 #[.int .i64 0, .int .i64 0, .int .i64 0, .int .i64 0, .slice none 0 0, .slice none 0 0, .slice none 0 0] #[.int .i64 s.count, .int .i64 s.sum, .int .i64 s.min, .int .i64 s.max, .slice a1 n1 d1, .slice a2 n2 d2, v] 44 W
  r1 : RdI W a1 n1 s.hist F1
  r2 : RdI W a2 n2 s.regs F2
  own : Own (w.heap.size + 3) W (F1 ++ F2)
  lt : ∀ b ∈ F1 ++ F2, b < lo
  row : W.ownsRow lo 35 1 v k vs
  rd : RdS W ((s.rows.take k).map ints) vs G
  og : Own lo W G
  ap : ∀ b, v.ownBlock = some b → b ∉ G
  big : w.heap.size + 3 ≤ lo
  lw : lo ≤ W.heap.size
  rm : RoomS W a1 n1 d1 F1
/-- The argument's box lies there, and nothing elder has changed. -/
def CopyS (w : World) (A : Array Value) (W : World) : Prop := Blk W w.heap.size A 44 ∧ Below w.heap.size w W
section
variable {P : Program} (w : World)
end
section
variable {w W W' : World} {A : Array Value} {s : Sk} {x1 x2 : Value} {a1 a2 : Option Addr} {n1 n2 d1 d2 : Nat} {F1 F2 : List Nat} {lo k : Nat} {v : Value} {vs : List Value} {G : List Nat}
theorem CopySt.below (h : CopySt w A s x1 x2 a1 a2 n1 n2 d1 d2 F1 F2 lo k v vs G W) (b : Below W.heap.size W W') : CopySt w A s x1 x2 a1 a2 n1 n2 d1 d2 F1 F2 lo k v vs G W' :=
  ⟨h.three.below b, h.r1.below b, h.r2.below b, h.own.below (fun x hx => (List.mem_append.1 hx).elim (h.r1.lt x) (h.r2.lt x)) b, h.lt, ownsRow_below h.row b, h.rd.below b, h.og.below h.rd.lt b, h.ap, h.big, Nat.le_trans h.lw b.size, h.rm.below b⟩
theorem CopySt.step (h : CopySt w A s x1 x2 a1 a2 n1 n2 d1 d2 F1 F2 lo k v vs G W) {g3 nk cp3 g4 cp4 L : Nat} {Fk : List Nat} (rk : RdI W (some ⟨g3, 0, none⟩) nk (s.rows.getD k []) Fk) (ok : Own L W Fk) (ltG : ∀ b ∈ G, b < L) (ltv : ∀ b, v.ownBlock = some b → b < L) (hL : lo ≤ L)
    (hown : W'.ownsRow lo 35 1 (.slice (some ⟨g4, 0, none⟩) (k + 1) cp4) (k + 1) (vs ++ [.slice (some ⟨g3, 0, none⟩) nk cp3])) (hgrow : W.grownBy W' v.ownBlock) (hat : v.ownBlock = some g4 ∨ g4 = W.heap.size) (hk : k < s.rows.length) :
    CopySt w A s x1 x2 a1 a2 n1 n2 d1 d2 F1 F2 lo (k + 1) (.slice (some ⟨g4, 0, none⟩) (k + 1) cp4) (vs ++ [.slice (some ⟨g3, 0, none⟩) nk cp3]) (G ++ Fk) (W'.setCell ⟨w.heap.size + 1 + 1, 6, none⟩ (.slice (some ⟨g4, 0, none⟩) (k + 1) cp4)) ∧ CopyS w A W' ∧
      W'.cell? ⟨w.heap.size + 1 + 1, 6, none⟩ = some v ∧ W'.frozen? ⟨w.heap.size + 1 + 1, 6, none⟩ = false := by
  have big := h.big
  have blk : ∀ b, b < W.heap.size → ¬ v.ownBlock = some b → W'.heap[b]? = W.heap[b]? := fun b hb hn => hgrow.block b hb (fun e => hn e.symm)
  have vge : ∀ b, v.ownBlock = some b → lo ≤ b := fun b hb => (h.row.lt b hb).1
  have bx := h.three.box.agree (blk _ h.three.box.lt (fun e => by have := vge _ e; omega))
  have rs := h.three.res.agree (blk _ h.three.res.lt (fun e => by have := vge _ e; omega))
  have lc := h.three.loc.agree (blk _ h.three.loc.lt (fun e => by have := vge _ e; omega))
  have bel : Below w.heap.size w W' := h.three.bel.grown hgrow h.three.bel.size (fun b hb => by have := vge b hb; omega)
  have T : Three w A 44 #[.int .i64 0, .int .i64 0, .int .i64 0, .int .i64 0, .slice none 0 0, .slice none 0 0, .slice none 0 0] #[.int .i64 s.count, .int .i64 s.sum, .int .i64 s.min, .int .i64 s.max, .slice a1 n1 d1, .slice a2 n2 d2, v] 44 W' := ⟨bx, rs, lc, bel⟩
  have no : ∀ b ∈ F1 ++ F2 ++ (G ++ Fk), b ≠ w.heap.size + 1 + 1 := fun b hb e => by
    rcases List.mem_append.1 hb with hb | hb
    · have := h.own.ge b hb; omega
    · rcases List.mem_append.1 hb with hb | hb
      · have := h.og.ge b hb; omega
      · have := ok.ge b hb; omega
  have agF : Agree W (W'.setCell ⟨w.heap.size + 1 + 1, 6, none⟩ (.slice (some ⟨g4, 0, none⟩) (k + 1) cp4)) (F1 ++ F2) := Agree.thenSet (fun b hb => blk b ((List.mem_append.1 hb).elim (h.r1.lt b) (h.r2.lt b)) (fun e => by have := vge _ e; have := h.lt b hb; omega)) (fun hx => no _ (List.mem_append_left _ hx) rfl) _ _
  have agG : Agree W (W'.setCell ⟨w.heap.size + 1 + 1, 6, none⟩ (.slice (some ⟨g4, 0, none⟩) (k + 1) cp4)) (G ++ Fk) := Agree.thenSet (fun b hb => blk b ((List.mem_append.1 hb).elim (h.rd.lt b) (rk.lt b)) (fun e => (List.mem_append.1 hb).elim (h.ap b e) (fun hf => by have := ok.ge b hf; have := ltv b e; omega))) (fun hx => no _ (List.mem_append_right _ hx) rfl) _ _
  have hgw : w.heap.size + 1 + 1 < W'.heap.size := lc.lt
  have rowS : (W'.setCell ⟨w.heap.size + 1 + 1, 6, none⟩ (.slice (some ⟨g4, 0, none⟩) (k + 1) cp4)).ownsRow lo 35 1 (.slice (some ⟨g4, 0, none⟩) (k + 1) cp4) (k + 1) (vs ++ [.slice (some ⟨g3, 0, none⟩) nk cp3]) :=
    own_keep hown (grown_set W' (w.heap.size + 1 + 1) 6 _) (by omega)
  refine ⟨⟨T.set 6 _, h.r1.agree agF.left, h.r2.agree agF.right, h.own.agree agF, h.lt, rowS, ?_, ?_, ?_, h.big, ?_, h.rm.agree agF.left⟩, ⟨bx, bel⟩, by rw [lc.cell]; rfl, lc.frozen 6⟩
  · rw [take_snoc s.rows [] k hk, List.map_append]
    exact (h.rd.agree agG.left).snoc (rd_ints.2 ⟨_, _, _, rfl, rk.agree agG.right⟩)
  · exact (h.og.agree agG.left).join (ok.agree agG.right) ltG hL
  · intro b hb hx
    have hb' : b = g4 := by simpa [Value.ownBlock] using hb.symm
    subst hb'
    rcases hat with e | e
    · rcases List.mem_append.1 hx with hx | hx
      · exact h.ap _ e hx
      · have := ok.ge _ hx; have := ltv _ e; omega
    · rcases List.mem_append.1 hx with hx | hx
      · have := h.rd.lt _ hx; omega
      · have := rk.lt _ hx; omega
  · have := hgrow.size; have := h.lw; simp; omega
theorem CopySt.rows (h : CopySt w A s x1 x2 a1 a2 n1 n2 d1 d2 F1 F2 lo k v vs G W) : ∃ a c F, v = .slice a k c ∧ RdII W a k (s.rows.take k) F ∧ Own (w.heap.size + 3) W (F1 ++ (F2 ++ F)) ∧ k ≤ c := by
  have big := h.big
  rcases h.row.2 with ⟨e, e'⟩ | ⟨g, cap, cur, e, e2, e3, e4⟩
  · subst e'
    exact ⟨none, 0, [], e, ⟨by simp, .inl ⟨rfl, rfl⟩⟩, by simpa using h.own, by omega⟩
  · subst e
    have hl : vs.length = k := by simpa using h.row.1
    have hlen := h.rd.length
    by_cases h0 : k = 0
    · subst h0
      exact ⟨_, cap, [], rfl, ⟨by simp, .inl ⟨rfl, rfl⟩⟩, by simpa using h.own, by omega⟩
    · have hm : RdM W ((s.rows.take k).map ints) g 0 G := rdM_of_own 0 h.rd (fun i hi => by rw [Nat.zero_add]; exact h.row.cellAt i (by omega))
      have hg : lo ≤ g := (h.row.lt g rfl).1
      have hgG : g ∉ G := h.ap g rfl
      have og : Own lo W (g :: G) := ⟨List.nodup_cons.2 ⟨hgG, h.og.nodup⟩, fun b hb o => (List.mem_cons.1 hb).elim (fun e => by subst e; exact h.row.frozenAt o) (fun hb => h.og.free b hb o), fun b hb => (List.mem_cons.1 hb).elim (fun e => by omega) (h.og.ge b)⟩
      refine ⟨_, cap, g :: G, rfl, ⟨by rw [List.length_map] at hlen; omega, .inr ⟨g, 0, G, by omega, rfl, rfl, hm⟩⟩, ?_, e4.1⟩
      rw [← List.append_assoc]
      exact h.own.join og h.lt h.big
end
/-- A new summary, with room. -/
def NewRoom (w : World) (s : Sk) (e : Ending) (w' : World) : Prop := ∃ v F, e = .returned v ∧ RdSk w' v s F ∧ Own w.heap.size w' F ∧ Below w.heap.size w w' ∧ Roomy w' v
theorem NewRoom.new {w w' : World} {s : Sk} {e : Ending} (h : NewRoom w s e w') : NewSk w s e w' := by
  obtain ⟨v, F, h1, h2, h3, h4, _⟩ := h
  exact ⟨v, F, h1, h2, h3, h4⟩
end Go.Proofs.Ytjndcfamfminkar
/- The walks through the model's l7Put, l7Nums and SketchBytes. No statement of the seat is proved here. -/
namespace Go.Proofs.Ytjndcfamfminkar
open Go.RowKit
def putAll (zs : List Int) : List Int := (zs.map encOf).flatten
def InN (n : Int) : Prop := 0 ≤ n ∧ n ≤ 2147483647
end Go.Proofs.Ytjndcfamfminkar
/- The walks through the model's l7Nums and SketchBytes. No statement of the seat is proved here. -/
namespace Go.Proofs.Ytjndcfamfminkar
open Go.RowKit
def Sk.nums (s : Sk) : List Int := [s.count, s.sum, s.min, s.max] ++ s.hist ++ s.regs ++ s.rows.flatten
structure Sk.lens7 (s : Sk) : Prop where
  hist : s.hist.length = 8
  regs : s.regs.length = 8
  rows : s.rows.length = 2
  row : ∀ z ∈ s.rows, z.length = 4
theorem okL_iff {l : List Int} {m : Nat} {most : Int} {z : Bool} (h : okL l m most z = true) : l.length = m ∧ ∀ x ∈ l, 0 ≤ x ∧ x ≤ most := by
  unfold okL at h
  simp only [Bool.and_eq_true, decide_eq_true_eq, List.all_eq_true] at h
  refine ⟨h.1, fun x hx => ?_⟩
  have e := h.2 x hx
  unfold okN at e
  simp only [Bool.and_eq_true, decide_eq_true_eq] at e
  exact e.1
theorem two_rows7 {l : List (List Int)} (h : l.length = 2) : l = [l.getD 0 [], l.getD 1 []] := by
  match l, h with
  | [a, b], _ => rfl
theorem Sk.ok_lens {s : Sk} (h : s.ok = true) : s.lens7 ∧ ∀ x ∈ s.nums, InN x := by
  unfold Sk.ok okHead okLists at h
  simp only [Bool.and_eq_true, decide_eq_true_eq] at h
  obtain ⟨⟨⟨⟨⟨⟨⟨c0, s0⟩, m0⟩, x0⟩, _⟩, r0⟩, _⟩, ⟨⟨⟨h1, h2⟩, h3⟩, h4⟩⟩ := h
  have e1 := okL_iff h1
  have e2 := okL_iff h2
  have e3 := okL_iff h3
  have e4 := okL_iff h4
  refine ⟨⟨e1.1, e2.1, r0, fun z hz => ?_⟩, fun x hx => ?_⟩
  · rw [two_rows7 r0] at hz
    simp only [List.mem_cons, List.not_mem_nil, or_false] at hz
    rcases hz with rfl | rfl
    · exact e3.1
    · exact e4.1
  · unfold Sk.nums at hx
    rw [two_rows7 r0] at hx
    simp only [List.mem_append, List.mem_cons, List.not_mem_nil, or_false, List.flatten_cons, List.flatten_nil, List.append_nil] at hx
    unfold InN
    rcases hx with ((hx | hx) | hx) | hx | hx
    · rcases hx with rfl | rfl | rfl | rfl <;> omega
    · have := e1.2 x hx; omega
    · have := e2.2 x hx; omega
    · have := e3.2 x hx; omega
    · have := e4.2 x hx; omega
/-- A list that grows beside a box. -/
structure NumSt (w : World) (cs : Array Value) (t : TypeId) (v : Value) (xs : List Int) (W : World) : Prop where
  box : Blk W w.heap.size cs t
  own : W.ownsRow (w.heap.size + 1) 3 1 v xs.length (xs.map (Value.int .i64))
  bel : Below w.heap.size w W
theorem NumSt.size {w W : World} {cs : Array Value} {t : TypeId} {v : Value} {xs : List Int} (h : NumSt w cs t v xs W) : w.heap.size + 1 ≤ W.heap.size := h.box.lt
theorem NumSt.app {w W W' : World} {cs : Array Value} {t : TypeId} {v v' : Value} {xs ys : List Int} {m : Nat} (h : NumSt w cs t v xs W) (hm : ys.length = m) (hown : W'.ownsRow (w.heap.size + 1) 3 1 v' (xs.length + m) (xs.map (Value.int .i64) ++ ys.map (Value.int .i64))) (hg : W.grownBy W' v.ownBlock) : NumSt w cs t v' (xs ++ ys) W' := by
  have b : Below (w.heap.size + 1) W W' := (Below.refl _ _).grown hg h.size (fun g e => (h.own.lt g e).1)
  refine ⟨h.box.agree (b.block _ (Nat.lt_succ_self _)), ?_, h.bel.trans (b.mono (by omega))⟩
  rw [List.length_append, List.map_append, hm]
  exact hown
end Go.Proofs.Ytjndcfamfminkar
/- How chapter 1 reads a number off bytes, over whole numbers. No statement of the seat is proved here. -/
namespace Go.Proofs.Ytjndcfamfminkar
open Go.RowKit

/-- The number that the bytes begin with, k of its bytes being read already (together acc): it and how many bytes it takes. -/
def dg : List Int → Nat → Int → Option (Int × Nat)
  | [], _, _ => none
  | c :: r, k, acc => if k = 5 then none else if c < 128 then (if (0 < k ∧ c = 0) ∨ 2147483647 < acc + c % 128 * 128 ^ k then none else some (acc + c % 128 * 128 ^ k, k + 1)) else dg r (k + 1) (acc + c % 128 * 128 ^ k)

/-- The number that begins at that place. -/
def res (zs : List Int) (p : Int) : Option (Int × Nat) := if 0 ≤ p ∧ p ≤ zs.length then dg (zs.drop p.toNat) 0 0 else none


section
variable {zs : List Int} {q k : Nat} {X c Y : Int} {r : Option (Int × Nat)}
end
end Go.Proofs.Ytjndcfamfminkar
/- The walks through GetNum, the program's and the model's. No statement of the seat is proved here. -/
namespace Go.Proofs.Ytjndcfamfminkar
open Go.RowKit


end Go.Proofs.Ytjndcfamfminkar
/- The walks through readNum and GetNum of the program: what is no number panics inside and is recovered at the face. No statement of the seat is proved here. -/
namespace Go.Proofs.Ytjndcfamfminkar
open Go.RowKit





end Go.Proofs.Ytjndcfamfminkar
/- The walk through the model's l7Get. No statement of the seat is proved here. -/
namespace Go.Proofs.Ytjndcfamfminkar
open Go.RowKit
theorem cell_one7 (w : World) (x : Value) (t : TypeId) : ∀ j u, [x][j]? = some u → (w.alloc (.cells #[x] t)).cell? ((⟨w.heap.size, 0, none⟩ : Addr).add j) = some u
  | 0, u, hx => by
    obtain rfl : x = u := by simpa using hx
    simp [Addr.add]
  | j + 1, u, hx => by simp at hx
end Go.Proofs.Ytjndcfamfminkar
/- The walk through the model's SketchBytes. No statement of the seat is proved here. -/
namespace Go.Proofs.Ytjndcfamfminkar
open Go.RowKit
def Sk.bytes (s : Sk) : List Int := if s.ok = true then putAll s.nums else []
end Go.Proofs.Ytjndcfamfminkar
/- The check sum of chapter 1 over whole numbers: one step of it on 32 bits and on 64 bits is the same number. No statement of the seat is proved here. -/
namespace Go.Proofs.Ytjndcfamfminkar
open Go.RowKit

/-- Half, and, where it was odd, exclusive or with the number of the check sum: on 64 bits with a sign; on 32 bits without one. -/
def hb64 (x : Int) : Int := if x % 2 = 1 then bits .xor .i64 (x / 2) 3988292384 else x / 2
def it64 : Nat → Int → Int | 0, x => x | k + 1, x => hb64 (it64 k x)
def crc64 (l : List Int) : Int := l.foldl (fun x b => it64 8 (bits .xor .i64 x b)) 4294967295


theorem takes (zs : List Int) (k : Nat) (hk : k < zs.length) : zs.take (k + 1) = zs.take k ++ [zs[k]?.getD 0] := by
  rw [List.take_add_one, List.getElem?_eq_getElem hk]; rfl
end Go.Proofs.Ytjndcfamfminkar
/- The walks through the two check sums (the model's and the program's), through the copying and the comparing of byte slices. No statement of the seat is proved here. -/
namespace Go.Proofs.Ytjndcfamfminkar
open Go.RowKit



end Go.Proofs.Ytjndcfamfminkar
/- The walk through the model's l7Sum. No statement of the seat is proved here. -/
namespace Go.Proofs.Ytjndcfamfminkar
open Go.RowKit
def crcOf (zs : List Int) : Int := bits .xor .i64 (crc64 zs) 4294967295
def sumOf (zs : List Int) : List Int := [crcOf zs / 16777216, crcOf zs / 65536 % 256, crcOf zs / 256 % 256, crcOf zs % 256]
end Go.Proofs.Ytjndcfamfminkar
/- What a right frame's numbers are, and its bytes. No statement of the seat is proved here. -/
namespace Go.Proofs.Ytjndcfamfminkar
open Go.RowKit
structure Fr.Right (x : Fr) : Prop where
  kind : 0 ≤ x.kind ∧ x.kind ≤ 3
  agent : 0 ≤ x.agent ∧ x.agent ≤ 2
  epoch : 0 ≤ x.epoch ∧ x.epoch ≤ 1000
  granted : 0 ≤ x.granted ∧ x.granted ≤ 60
  ok : x.taken.ok = true
  span : ∀ k, k < x.taken.length → 1 ≤ (x.taken.at k).1 ∧ (x.taken.at k).1 ≤ (x.taken.at k).2 ∧ (x.taken.at k).2 ≤ 60
  many : x.taken.length ≤ 30
  item : if x.kind = 1 then x.item.ok = true else x.item = It.zero
def Fr.body (x : Fr) : List Int := [87, 82] ++ putAll [x.kind, x.agent, x.epoch, x.granted, (x.taken.length : Int)] ++ putAll (flat x.taken) ++ (if x.kind = 1 then putAll [x.item.seq, x.item.cls, x.item.key, x.item.window] ++ x.item.sk.bytes else [])
def Fr.bytes (x : Fr) : List Int := if x.ok = true then x.body ++ sumOf x.body else []
end Go.Proofs.Ytjndcfamfminkar
/- The walk through the model's l7Body. No statement of the seat is proved here. -/
namespace Go.Proofs.Ytjndcfamfminkar
open Go.RowKit
/-- Bytes that grow beside a box. -/
structure ByteSt (w : World) (cs : Array Value) (t : TypeId) (v : Value) (xs : List Int) (W : World) : Prop where
  box : Blk W w.heap.size cs t
  own : W.ownsRow (w.heap.size + 1) 5 1 v xs.length (xs.map (Value.int .u8))
  bel : Below w.heap.size w W
theorem ByteSt.size {w W : World} {cs : Array Value} {t : TypeId} {v : Value} {xs : List Int} (h : ByteSt w cs t v xs W) : w.heap.size + 1 ≤ W.heap.size := h.box.lt
theorem ByteSt.below {w W W' : World} {cs : Array Value} {t : TypeId} {v : Value} {xs : List Int} (h : ByteSt w cs t v xs W) (b : Below W.heap.size W W') : ByteSt w cs t v xs W' := ⟨h.box.below b, ownsRow_below h.own b, Below.next h.bel b⟩
theorem ByteSt.app {w W W' : World} {cs : Array Value} {t : TypeId} {v v' : Value} {xs ys : List Int} {m : Nat} (h : ByteSt w cs t v xs W) (hm : ys.length = m) (hown : W'.ownsRow (w.heap.size + 1) 5 1 v' (xs.length + m) (xs.map (Value.int .u8) ++ ys.map (Value.int .u8))) (hg : W.grownBy W' v.ownBlock) : ByteSt w cs t v' (xs ++ ys) W' := by
  have b : Below (w.heap.size + 1) W W' := (Below.refl _ _).grown hg h.size (fun g e => (h.own.lt g e).1)
  refine ⟨h.box.agree (b.block _ (Nat.lt_succ_self _)), ?_, h.bel.trans (b.mono (by omega))⟩
  rw [List.length_append, List.map_append, hm]
  exact hown
end Go.Proofs.Ytjndcfamfminkar
/- The walk through the helper of the laws that compares two byte slices. No statement of the seat is proved here. -/
namespace Go.Proofs.Ytjndcfamfminkar
open Go.RowKit



end Go.Proofs.Ytjndcfamfminkar
/- The walk through the model's FrameBytes. No statement of the seat is proved here. -/
namespace Go.Proofs.Ytjndcfamfminkar
open Go.RowKit
end Go.Proofs.Ytjndcfamfminkar
/- What is written is read as it was: the numbers of a frame. No statement of the seat is proved here. -/
namespace Go.Proofs.Ytjndcfamfminkar
open Go.RowKit

end Go.Proofs.Ytjndcfamfminkar
/- What is read is what was written: numbers out of their bytes. No statement of the seat is proved here. -/
namespace Go.Proofs.Ytjndcfamfminkar
open Go.RowKit
/-! ### summaries -/
end Go.Proofs.Ytjndcfamfminkar
/- What is read is what was written: summaries and frames out of their numbers. No statement of the seat is proved here. -/
namespace Go.Proofs.Ytjndcfamfminkar
open Go.RowKit
/-! ### frames -/
def Fr.numbers (x : Fr) : List Int := [x.kind, x.agent, x.epoch, x.granted, (x.taken.length : Int)] ++ flat x.taken ++ (if x.kind = 1 then [x.item.seq, x.item.cls, x.item.key, x.item.window] ++ x.item.sk.nums else [])
def Fr.zero : Fr := ⟨0, 0, 0, 0, [], It.zero⟩
end Go.Proofs.Ytjndcfamfminkar
/- What is read out of bytes, as a result; appends that grow, within a region. No statement of the seat is proved here. -/
namespace Go.Proofs.Ytjndcfamfminkar
open Go.RowKit
/-- A part of a list that is read. -/
theorem RdI.part {W : World} {b off m : Nat} {l : List Int} {F : List Nat} (h : RdI W (some ⟨b, off, none⟩) m l F) {k n : Nat} (hkn : k + n ≤ m) (hn : 0 < n) : RdI W (some ⟨b, off + k, none⟩) n ((l.drop k).take n) F := by
  rcases h.cells with ⟨h0, _⟩ | ⟨b', off', _, e, hF, hc⟩
  · omega
  · cases e
    refine ⟨by have := h.length; simp; omega, .inr ⟨b, off + k, hn, rfl, hF, fun i hi => ?_⟩⟩
    rw [Nat.add_assoc, hc (k + i) (by omega)]
    simp [hi]
section
variable {P : Program} {ops : Array Oper} {Q : Exit → Act → World → Prop} {a : Act} {w : World} {o : Oper} {K : Act → World → Prop}
end
end Go.Proofs.Ytjndcfamfminkar
/- Appending a slice of numbers, whatever its length, onto an empty literal. No statement of the seat is proved here. -/
namespace Go.Proofs.Ytjndcfamfminkar
open Go.RowKit
section
variable {P : Program} {ops : Array Oper} {Q : Exit → Act → World → Prop} {a : Act} {w : World} {o : Oper} {K : Act → World → Prop}
end
end Go.Proofs.Ytjndcfamfminkar
/- The walk through the model's copying of a summary, whatever lists it has. No statement of the seat is proved here. -/
namespace Go.Proofs.Ytjndcfamfminkar
open Go.RowKit
/-- What is copied behind k rows. -/
structure CopyA (w : World) (A : Array Value) (s : Sk) (a1 a2 : Option Addr) (n1 n2 d1 d2 : Nat) (F1 F2 : List Nat) (lo k : Nat) (v : Value) (vs : List Value) (G : List Nat) (W : World) : Prop where
  three : Three w A 44 #[.int .i64 0, .int .i64 0, .int .i64 0, .int .i64 0, .slice none 0 0, .slice none 0 0, .slice none 0 0] #[.int .i64 s.count, .int .i64 s.sum, .int .i64 s.min, .int .i64 s.max, .slice a1 n1 d1, .slice a2 n2 d2, v] 44 W
  r1 : RdI W a1 n1 s.hist F1
  r2 : RdI W a2 n2 s.regs F2
  own : Own (w.heap.size + 3) W (F1 ++ F2)
  lt : ∀ b ∈ F1 ++ F2, b < lo
  row : W.ownsRow lo 35 1 v k vs
  rd : RdS W ((s.rows.take k).map ints) vs G
  og : Own lo W G
  ap : ∀ b, v.ownBlock = some b → b ∉ G
  big : w.heap.size + 3 ≤ lo
  lw : lo ≤ W.heap.size
section
variable {w W W' : World} {A : Array Value} {s : Sk} {a1 a2 : Option Addr} {n1 n2 d1 d2 : Nat} {F1 F2 : List Nat} {lo k : Nat} {v : Value} {vs : List Value} {G : List Nat}
theorem CopyA.below (h : CopyA w A s a1 a2 n1 n2 d1 d2 F1 F2 lo k v vs G W) (b : Below W.heap.size W W') : CopyA w A s a1 a2 n1 n2 d1 d2 F1 F2 lo k v vs G W' :=
  ⟨h.three.below b, h.r1.below b, h.r2.below b, h.own.below (fun x hx => (List.mem_append.1 hx).elim (h.r1.lt x) (h.r2.lt x)) b, h.lt, ownsRow_below h.row b, h.rd.below b, h.og.below h.rd.lt b, h.ap, h.big, Nat.le_trans h.lw b.size⟩
theorem CopyA.step (h : CopyA w A s a1 a2 n1 n2 d1 d2 F1 F2 lo k v vs G W) {ak : Option Addr} {nk cp3 g4 cp4 L : Nat} {Fk : List Nat} (rk : RdI W ak nk (s.rows.getD k []) Fk) (ok : Own L W Fk) (ltG : ∀ b ∈ G, b < L) (ltv : ∀ b, v.ownBlock = some b → b < L) (hL : lo ≤ L)
    (hown : W'.ownsRow lo 35 1 (.slice (some ⟨g4, 0, none⟩) (k + 1) cp4) (k + 1) (vs ++ [.slice ak nk cp3])) (hgrow : W.grownBy W' v.ownBlock) (hat : v.ownBlock = some g4 ∨ g4 = W.heap.size) (hk : k < s.rows.length) :
    CopyA w A s a1 a2 n1 n2 d1 d2 F1 F2 lo (k + 1) (.slice (some ⟨g4, 0, none⟩) (k + 1) cp4) (vs ++ [.slice ak nk cp3]) (G ++ Fk) (W'.setCell ⟨w.heap.size + 1 + 1, 6, none⟩ (.slice (some ⟨g4, 0, none⟩) (k + 1) cp4)) ∧ CopyS w A W' ∧
      W'.cell? ⟨w.heap.size + 1 + 1, 6, none⟩ = some v ∧ W'.frozen? ⟨w.heap.size + 1 + 1, 6, none⟩ = false := by
  have big := h.big
  have blk : ∀ b, b < W.heap.size → ¬ v.ownBlock = some b → W'.heap[b]? = W.heap[b]? := fun b hb hn => hgrow.block b hb (fun e => hn e.symm)
  have vge : ∀ b, v.ownBlock = some b → lo ≤ b := fun b hb => (h.row.lt b hb).1
  have bx := h.three.box.agree (blk _ h.three.box.lt (fun e => by have := vge _ e; omega))
  have rs := h.three.res.agree (blk _ h.three.res.lt (fun e => by have := vge _ e; omega))
  have lc := h.three.loc.agree (blk _ h.three.loc.lt (fun e => by have := vge _ e; omega))
  have bel : Below w.heap.size w W' := h.three.bel.grown hgrow h.three.bel.size (fun b hb => by have := vge b hb; omega)
  have T : Three w A 44 #[.int .i64 0, .int .i64 0, .int .i64 0, .int .i64 0, .slice none 0 0, .slice none 0 0, .slice none 0 0] #[.int .i64 s.count, .int .i64 s.sum, .int .i64 s.min, .int .i64 s.max, .slice a1 n1 d1, .slice a2 n2 d2, v] 44 W' := ⟨bx, rs, lc, bel⟩
  have no : ∀ b ∈ F1 ++ F2 ++ (G ++ Fk), b ≠ w.heap.size + 1 + 1 := fun b hb e => by
    rcases List.mem_append.1 hb with hb | hb
    · have := h.own.ge b hb; omega
    · rcases List.mem_append.1 hb with hb | hb
      · have := h.og.ge b hb; omega
      · have := ok.ge b hb; omega
  have agF : Agree W (W'.setCell ⟨w.heap.size + 1 + 1, 6, none⟩ (.slice (some ⟨g4, 0, none⟩) (k + 1) cp4)) (F1 ++ F2) := Agree.thenSet (fun b hb => blk b ((List.mem_append.1 hb).elim (h.r1.lt b) (h.r2.lt b)) (fun e => by have := vge _ e; have := h.lt b hb; omega)) (fun hx => no _ (List.mem_append_left _ hx) rfl) _ _
  have agG : Agree W (W'.setCell ⟨w.heap.size + 1 + 1, 6, none⟩ (.slice (some ⟨g4, 0, none⟩) (k + 1) cp4)) (G ++ Fk) := Agree.thenSet (fun b hb => blk b ((List.mem_append.1 hb).elim (h.rd.lt b) (rk.lt b)) (fun e => (List.mem_append.1 hb).elim (h.ap b e) (fun hf => by have := ok.ge b hf; have := ltv b e; omega))) (fun hx => no _ (List.mem_append_right _ hx) rfl) _ _
  have hgw : w.heap.size + 1 + 1 < W'.heap.size := lc.lt
  have rowS : (W'.setCell ⟨w.heap.size + 1 + 1, 6, none⟩ (.slice (some ⟨g4, 0, none⟩) (k + 1) cp4)).ownsRow lo 35 1 (.slice (some ⟨g4, 0, none⟩) (k + 1) cp4) (k + 1) (vs ++ [.slice ak nk cp3]) :=
    own_keep hown (grown_set W' (w.heap.size + 1 + 1) 6 _) (by omega)
  refine ⟨⟨T.set 6 _, h.r1.agree agF.left, h.r2.agree agF.right, h.own.agree agF, h.lt, rowS, ?_, ?_, ?_, h.big, ?_⟩, ⟨bx, bel⟩, by rw [lc.cell]; rfl, lc.frozen 6⟩
  · rw [take_snoc s.rows [] k hk, List.map_append]
    exact (h.rd.agree agG.left).snoc (rd_ints.2 ⟨_, _, _, rfl, rk.agree agG.right⟩)
  · exact (h.og.agree agG.left).join (ok.agree agG.right) ltG hL
  · intro b hb hx
    have hb' : b = g4 := by simpa [Value.ownBlock] using hb.symm
    subst hb'
    rcases hat with e | e
    · rcases List.mem_append.1 hx with hx | hx
      · exact h.ap _ e hx
      · have := ok.ge _ hx; have := ltv _ e; omega
    · rcases List.mem_append.1 hx with hx | hx
      · have := h.rd.lt _ hx; omega
      · have := rk.lt _ hx; omega
  · have := hgrow.size; have := h.lw; simp; omega
theorem CopyA.rows (h : CopyA w A s a1 a2 n1 n2 d1 d2 F1 F2 lo k v vs G W) : ∃ a c F, v = .slice a k c ∧ RdII W a k (s.rows.take k) F ∧ Own (w.heap.size + 3) W (F1 ++ (F2 ++ F)) ∧ k ≤ c := by
  have big := h.big
  rcases h.row.2 with ⟨e, e'⟩ | ⟨g, cap, cur, e, e2, e3, e4⟩
  · subst e'
    exact ⟨none, 0, [], e, ⟨by simp, .inl ⟨rfl, rfl⟩⟩, by simpa using h.own, by omega⟩
  · subst e
    have hl : vs.length = k := by simpa using h.row.1
    have hlen := h.rd.length
    by_cases h0 : k = 0
    · subst h0
      exact ⟨_, cap, [], rfl, ⟨by simp, .inl ⟨rfl, rfl⟩⟩, by simpa using h.own, by omega⟩
    · have hm : RdM W ((s.rows.take k).map ints) g 0 G := rdM_of_own 0 h.rd (fun i hi => by rw [Nat.zero_add]; exact h.row.cellAt i (by omega))
      have hg : lo ≤ g := (h.row.lt g rfl).1
      have hgG : g ∉ G := h.ap g rfl
      have og : Own lo W (g :: G) := ⟨List.nodup_cons.2 ⟨hgG, h.og.nodup⟩, fun b hb o => (List.mem_cons.1 hb).elim (fun e => by subst e; exact h.row.frozenAt o) (fun hb => h.og.free b hb o), fun b hb => (List.mem_cons.1 hb).elim (fun e => by omega) (h.og.ge b)⟩
      refine ⟨_, cap, g :: G, rfl, ⟨by rw [List.length_map] at hlen; omega, .inr ⟨g, 0, G, by omega, rfl, rfl, hm⟩⟩, ?_, e4.1⟩
      rw [← List.append_assoc]
      exact h.own.join og h.lt h.big
end
end Go.Proofs.Ytjndcfamfminkar
/- A slice of structs that grows by appending, element by element. No statement of the seat is proved here. -/
namespace Go.Proofs.Ytjndcfamfminkar
open Go.RowKit
section
variable {α : Type} {K : ElK α} {e : TypeId} {xs : List α} {lo k : Nat} {v : Value} {vs : List Value} {G : List Nat} {W W' : World}
/-- What has been appended behind k rounds. -/
structure GrowL (K : ElK α) (e : TypeId) (xs : List α) (lo k : Nat) (v : Value) (vs : List Value) (G : List Nat) (W : World) : Prop where
  row : W.ownsRow lo e K.n v k vs
  rd : RdC K W (xs.take k) vs G
  og : Own lo W G
  ap : ∀ b, v.ownBlock = some b → b ∉ G
  lw : lo ≤ W.heap.size
theorem GrowL.below (h : GrowL K e xs lo k v vs G W) (b : Below W.heap.size W W') : GrowL K e xs lo k v vs G W' := by
  refine ⟨?_, h.rd.below b, h.og.below h.rd.lt b, h.ap, Nat.le_trans h.lw b.size⟩
  refine ⟨h.row.1, ?_⟩
  rcases h.row.2 with q | ⟨g, cap, cur, h1, h2, h3, h4⟩
  · exact .inl q
  · refine .inr ⟨g, cap, cur, h1, h2, ?_, h4⟩
    rw [b.block g (h.row.lt g (by rw [h1]; rfl)).2]
    exact h3
theorem GrowL.set {g j : Nat} {u : Value} (h : GrowL K e xs lo k v vs G W) (hg : g < lo) : GrowL K e xs lo k v vs G (W.setCell ⟨g, j, none⟩ u) := by
  have nG : g ∉ G := fun hx => by have := h.og.ge _ hx; omega
  refine ⟨⟨h.row.1, ?_⟩, h.rd.agree (.set nG _ _), h.og.agree (.set nG _ _), h.ap, by simpa using h.lw⟩
  rcases h.row.2 with q | ⟨g', cap, cur, h1, h2, h3, h4⟩
  · exact .inl q
  · exact .inr ⟨g', cap, cur, h1, h2, by rw [Below.heap_setCell W ⟨g, j, none⟩ u g' (by show g' ≠ g; omega)]; exact h3, h4⟩
theorem GrowL.setRow {g : Nat} {ds : Array Value} (h : GrowL K e xs lo k v vs G W) (hg : g < lo) : GrowL K e xs lo k v vs G (W.setRow g ds) := by
  have nG : g ∉ G := fun hx => by have := h.og.ge _ hx; omega
  refine ⟨⟨h.row.1, ?_⟩, h.rd.agree (Agree.row nG _), h.og.agree (Agree.row nG _), h.ap, ?_⟩
  · rcases h.row.2 with q | ⟨g', cap, cur, h1, h2, h3, h4⟩
    · exact .inl q
    · exact .inr ⟨g', cap, cur, h1, h2, by rw [setRow_other W g g' ds (by omega)]; exact h3, h4⟩
  · have := (below_setRow (Below.refl 0 W) (Nat.zero_le g) ds).size
    exact Nat.le_trans h.lw this
theorem GrowL.lts (h : GrowL K e xs lo k v vs G W) : (∀ b ∈ G, b < W.heap.size) ∧ (∀ b, v.ownBlock = some b → b < W.heap.size) ∧ lo ≤ W.heap.size := ⟨h.rd.lt, fun b hb => (h.row.lt b hb).2, h.lw⟩
theorem GrowL.step (h : GrowL K e xs lo k v vs G W) {x : α} {cs : Array Value} {Fk : List Nat} {L g4 cp4 : Nat} (hx : xs[k]? = some x) (rk : K.R W (.agg cs) x Fk) (hn : cs.size = K.n) (ok : Own L W Fk) (ltG : ∀ b ∈ G, b < L) (ltv : ∀ b, v.ownBlock = some b → b < L) (hL : lo ≤ L)
    (hown : W'.ownsRow lo e K.n (.slice (some ⟨g4, 0, none⟩) (k + 1) cp4) (k + 1) (vs ++ cs.toList)) (hgrow : W.grownBy W' v.ownBlock) (hat : v.ownBlock = some g4 ∨ g4 = W.heap.size) :
    GrowL K e xs lo (k + 1) (.slice (some ⟨g4, 0, none⟩) (k + 1) cp4) (vs ++ cs.toList) (G ++ Fk) W' := by
  have blk : ∀ b, b < W.heap.size → ¬ v.ownBlock = some b → W'.heap[b]? = W.heap[b]? := fun b hb hn => hgrow.block b hb (fun e => hn e.symm)
  have agG : Agree W W' G := fun b hb => blk b (h.rd.lt b hb) (fun e => h.ap b e hb)
  have agF : Agree W W' Fk := fun b hb => blk b (K.lt rk b hb) (fun e => by have := ok.ge b hb; have := ltv b e; omega)
  refine ⟨hown, ?_, ?_, ?_, Nat.le_trans h.lw hgrow.size⟩
  · rw [take_snoc_at hx]
    exact (h.rd.agree agG).snoc (K.agree rk agF) hn
  · exact (h.og.agree agG).join (ok.agree agF) ltG hL
  · intro b hb hx
    have hb' : b = g4 := by simpa [Value.ownBlock] using hb.symm
    subst hb'
    rcases hat with q | q
    · rcases List.mem_append.1 hx with hx | hx
      · exact h.ap _ q hx
      · have := ok.ge _ hx; have := ltv _ q; omega
    · rcases List.mem_append.1 hx with hx | hx
      · have := h.rd.lt _ hx; omega
      · have := K.lt rk _ hx; omega
/-- What lies elsewhere stays, where only the growing row is written. -/
theorem GrowL.other (h : GrowL K e xs lo k v vs G W) (hgrow : W.grownBy W' v.ownBlock) {b : Nat} (hb : b < lo) : W'.heap[b]? = W.heap[b]? := hgrow.block b (Nat.lt_of_lt_of_le hb h.lw) (fun e => by have := (h.row.lt b e.symm).1; omega)
theorem GrowL.done (h : GrowL K e xs lo k v vs G W) (hk : xs.length = k) : ∃ a cap F, v = .slice a k cap ∧ RdL K W a k xs F ∧ Own lo W F ∧ Capd a k cap := by
  have rd := h.rd
  rw [List.take_of_length_le (Nat.le_of_eq hk)] at rd
  exact rdL_of_own h.row rd h.og h.ap
/-- The same, and where its blocks lie. -/
theorem GrowL.done2 (h : GrowL K e xs lo k v vs G W) (hk : xs.length = k) : ∃ a cap F, v = .slice a k cap ∧ RdL K W a k xs F ∧ Own lo W F ∧ Capd a k cap ∧ ∀ b ∈ F, v.ownBlock = some b ∨ b ∈ G := by
  have rd := h.rd
  rw [List.take_of_length_le (Nat.le_of_eq hk)] at rd
  have hr := h.row
  have hl : xs.length = k := hk
  rcases hr.2 with ⟨e1, e2⟩ | ⟨g, cap, cur, e1, h1, h2, h3, h4, h5, h6⟩
  · subst e2
    obtain rfl : xs = [] := List.eq_nil_of_length_eq_zero hl
    exact ⟨_, 0, [], e1, RdL.nil, Own.nil, ⟨fun _ => rfl, Nat.le_refl _⟩, fun b hb => by cases hb⟩
  · by_cases h0 : k = 0
    · subst h0
      obtain rfl : xs = [] := List.eq_nil_of_length_eq_zero hl
      exact ⟨_, cap, [], e1, RdL.zero, Own.nil, ⟨fun e => (by cases e), h3⟩, fun b hb => by cases hb⟩
    · subst e1
      refine ⟨_, cap, g :: G, rfl, ⟨hl, .inr ⟨g, 0, G, by omega, rfl, rfl, rdEls_of 0 rd (fun i hi => ?_)⟩⟩, ⟨?_, fun b hb o => ?_, fun b hb => ?_⟩, ⟨(fun e => by cases e), h3⟩, fun b hb => ?_⟩
      · rw [Nat.zero_add]; exact hr.cellAt i (by rw [← hr.1]; exact hi)
      · exact List.nodup_cons.2 ⟨h.ap g rfl, h.og.nodup⟩
      · rcases List.mem_cons.1 hb with rfl | hb
        · exact hr.frozenAt o
        · exact h.og.free b hb o
      · rcases List.mem_cons.1 hb with rfl | hb
        · exact h1
        · exact h.og.ge b hb
      · rcases List.mem_cons.1 hb with rfl | hb
        · exact .inl rfl
        · exact .inr hb
end
end Go.Proofs.Ytjndcfamfminkar
/- The walks through the model's SetSize and SetApart. No statement of the seat is proved here. -/
namespace Go.Proofs.Ytjndcfamfminkar
open Go.RowKit
def Sp.sum (ps : Sp) : Int := (ps.map fun p => p.2 - p.1 + 1).sum
def Sp.size (ps : Sp) : Int := if ps.ok = true then ps.sum else 0
def meet (p q : Int × Int) : Bool := decide (p.1 ≤ q.2 ∧ q.1 ≤ p.2)
def Sp.apart (ps qs : Sp) : Bool := ps.ok && qs.ok && ps.all fun p => qs.all fun q => !meet p q
end Go.Proofs.Ytjndcfamfminkar
/- The walk through the model's SetApart. No statement of the seat is proved here. -/
namespace Go.Proofs.Ytjndcfamfminkar
open Go.RowKit
theorem QuietTo.trans {a b c : World} (h : QuietTo a b) (k : QuietTo b c) : QuietTo a c := by
  obtain ⟨m, rfl⟩ := h
  obtain ⟨n, rfl⟩ := k
  exact ⟨m + n, World.drewN_drewN ..⟩
end Go.Proofs.Ytjndcfamfminkar
/- The walks through the model's putting of a span into a set, and what is made of it. No statement of the seat is proved here. -/
namespace Go.Proofs.Ytjndcfamfminkar
open Go.RowKit
section
variable {P : Program} {ops : Array Oper} {Q : Exit → Act → World → Prop} {rest : List Oper} {a : Act} {w : World} {x y : Operand} {o : Oper}
end
/-- What is put behind what has come: the rest of the set, the span, whether it has been put. -/
def put : Sp → Int × Int → Bool → Sp
  | [], x, d => if d then [] else [x]
  | p :: ps, x, d => if p.2 + 1 < x.1 then p :: put ps x d else if x.2 + 1 < p.1 then (if d then [] else [x]) ++ p :: put ps x true else put ps (min x.1 p.1, max x.2 p.2) d
where put_true : ∀ (ps : Sp) (x : Int × Int), (put ps x true).length ≤ ps.length
  | [], x => by simp [put]
  | p :: ps, x => by
    rw [put]
    split
    · have := put_true ps x; simp; omega
    · split
      · have := put_true ps x; simp; omega
      · have := put_true ps (min x.1 p.1, max x.2 p.2); simp; omega
/-- Where the putting is: what has come, the span's box. -/
structure PutAt (w : World) (v : Value) (o : Sp) (x : Int × Int) (W : World) : Prop where
  own : W.ownsRow (w.heap.size + 1) 107 2 v o.length ((flat o).map (Value.int .i64))
  box : Blk W w.heap.size #[.int .i64 x.1, .int .i64 x.2] 107
  bel : Below w.heap.size w W
theorem PutAt.app {w W W6 : World} {v v' : Value} {o : Sp} {x : Int × Int} {p q : Int} (h : PutAt w v o x W) (hown : W6.ownsRow (w.heap.size + 1) 107 2 v' (o.length + 1) ((flat o).map (Value.int .i64) ++ [.int .i64 p, .int .i64 q])) (hgrow : (W.alloc (.cells #[.int .i64 p, .int .i64 q] 107)).grownBy W6 v.ownBlock) : PutAt w v' (o ++ [(p, q)]) x W6 := by
  have hne : ∀ k, v.ownBlock = some k → w.heap.size + 1 ≤ k := fun k hk => (h.own.lt k hk).1
  have hb : Below w.heap.size w (W.alloc (.cells #[.int .i64 p, .int .i64 q] 107)) := Below.allocW _ h.bel (Nat.le_refl _)
  refine ⟨?_, ?_, ?_⟩
  · rw [flat_append, List.map_append, List.length_append]
    exact hown
  · exact (h.box.alloc _).agree (hgrow.block _ (h.box.alloc _).lt (fun e => by have := hne _ e.symm; omega))
  · exact hb.grown hgrow hb.size (fun k hk => by have := hne k hk; omega)
theorem PutAt.drewN {w W : World} {v : Value} {o : Sp} {x : Int × Int} (h : PutAt w v o x W) (m : Nat) : PutAt w v o x (W.drewN m) := ⟨⟨h.own.1, h.own.2⟩, h.box, ⟨h.bel.os, h.bel.tape, h.bel.output, h.bel.size, h.bel.block⟩⟩
/-- A span lies in memory. -/
def SpanAt (b c : Nat) (p q : Int) (W : World) : Prop := W.cell? ⟨b, c, none⟩ = some (.int .i64 p) ∧ W.cell? ⟨b, c + 1, none⟩ = some (.int .i64 q)
theorem SpanAt.setRow {b c g : Nat} {p q : Int} {W : World} {cs : Array Value} (h : SpanAt b c p q W) (hn : b ≠ g) : SpanAt b c p q (W.setRow g cs) :=
  ⟨(World.cell?_of_block (w := W) (a := ⟨b, c, none⟩) (setRow_other W g b cs hn)).trans h.1, (World.cell?_of_block (w := W) (a := ⟨b, c + 1, none⟩) (setRow_other W g b cs hn)).trans h.2⟩
end Go.Proofs.Ytjndcfamfminkar
/- The walks through the model's SetAdd and SetJoin. No statement of the seat is proved here. -/
namespace Go.Proofs.Ytjndcfamfminkar
open Go.RowKit
theorem NewP.from {w w1 w' : World} {ps : Sp} {e : Ending} (hb : Below w.heap.size w w1) (h : NewP w1 ps e w') : NewP w ps e w' := by
  obtain ⟨a, len, cap, F, h1, h2, h3, h4, h5⟩ := h
  exact ⟨a, len, cap, F, h1, h2, h3.mono hb.size, Below.next hb h4, h5⟩
def Sp.add (ps : Sp) (n : Int) : Sp × Bool := if ps.ok = true ∧ (0 ≤ n ∧ n ≤ 9999) ∧ ps.has n = false then (put ps (n, n) false, true) else (ps, false)
end Go.Proofs.Ytjndcfamfminkar
/- The walks through the model's copying of an item and of an agent. No statement of the seat is proved here. -/
namespace Go.Proofs.Ytjndcfamfminkar
open Go.RowKit
/-- An agent's copy, behind k items. -/
structure CopyG (w : World) (A : Array Value) (x : Ag) (p2 : Option Addr) (l2 k2 : Nat) (G2 : List Nat) (lo k : Nat) (v : Value) (vs : List Value) (G : List Nat) (W : World) : Prop where
  three : Three w A 25 #[.int .i64 0, .int .i64 0, .bool false, .int .i64 0, .slice none 0 0, .slice none 0 0, .int .i64 0] #[.int .i64 x.id, .int .i64 x.epoch, .bool x.live, .int .i64 x.granted, v, .slice p2 l2 k2, .int .i64 x.next] 25 W
  r2 : RdP W p2 l2 x.taken G2
  o2 : Own (w.heap.size + 3) W G2
  lt : ∀ b ∈ G2, b < lo
  grow : GrowL itK 54 x.sealed lo k v vs G W
  big : w.heap.size + 3 ≤ lo
theorem CopyG.below {w W W' : World} {A : Array Value} {x : Ag} {p2 : Option Addr} {l2 k2 : Nat} {G2 : List Nat} {lo k : Nat} {v : Value} {vs : List Value} {G : List Nat} (h : CopyG w A x p2 l2 k2 G2 lo k v vs G W) (b : Below W.heap.size W W') : CopyG w A x p2 l2 k2 G2 lo k v vs G W' :=
  ⟨h.three.below b, h.r2.below b, h.o2.below h.r2.lt b, h.lt, h.grow.below b, h.big⟩
theorem CopyG.step {w W W' : World} {A : Array Value} {x : Ag} {p2 : Option Addr} {l2 k2 : Nat} {G2 : List Nat} {lo k : Nat} {v v' : Value} {vs vs' : List Value} {G G' : List Nat} (h : CopyG w A x p2 l2 k2 G2 lo k v vs G W) (hgrow : W.grownBy W' v.ownBlock) (hg : GrowL itK 54 x.sealed lo (k + 1) v' vs' G' W') :
    CopyG w A x p2 l2 k2 G2 lo (k + 1) v' vs' G' (W'.setCell ⟨w.heap.size + 1 + 1, 4, none⟩ v') ∧ Blk W' w.heap.size A 25 ∧ Below w.heap.size w W' ∧ Blk W' (w.heap.size + 1 + 1) #[.int .i64 x.id, .int .i64 x.epoch, .bool x.live, .int .i64 x.granted, v, .slice p2 l2 k2, .int .i64 x.next] 25 := by
  have big := h.big
  have ot : ∀ b, b < lo → W'.heap[b]? = W.heap[b]? := fun b hb => h.grow.other hgrow hb
  have bx := h.three.box.agree (ot _ (by omega))
  have rs := h.three.res.agree (ot _ (by omega))
  have lc := h.three.loc.agree (ot _ (by omega))
  have bel : Below w.heap.size w W' := h.three.bel.grown hgrow h.three.bel.size (fun b hb => by have := (h.grow.row.lt b hb).1; omega)
  have T : Three w A 25 #[.int .i64 0, .int .i64 0, .bool false, .int .i64 0, .slice none 0 0, .slice none 0 0, .int .i64 0] #[.int .i64 x.id, .int .i64 x.epoch, .bool x.live, .int .i64 x.granted, v, .slice p2 l2 k2, .int .i64 x.next] 25 W' := ⟨bx, rs, lc, bel⟩
  have n2 : w.heap.size + 1 + 1 ∉ G2 := fun hx => by have := h.o2.ge _ hx; omega
  have ag : Agree W (W'.setCell ⟨w.heap.size + 1 + 1, 4, none⟩ v') G2 := Agree.thenSet (fun b hb => ot b (h.lt b hb)) n2 _ _
  exact ⟨⟨T.set 4 v', h.r2.agree ag, h.o2.agree ag, h.lt, hg.set (by omega), h.big⟩, bx, bel, lc⟩
/-- A new agent whose list can grow. -/
def NewAgG (w : World) (x : Ag) (e : Ending) (w' : World) : Prop := ∃ (q1 : Option Addr) (k1 : Nat) (q2 : Option Addr) (l2 k2 : Nat) (F G : List Nat) (lo : Nat) (vs : List Value) (GG : List Nat),
  e = .returned (.agg #[.int .i64 x.id, .int .i64 x.epoch, .bool x.live, .int .i64 x.granted, .slice q1 x.sealed.length k1, .slice q2 l2 k2, .int .i64 x.next]) ∧ RdL itK w' q1 x.sealed.length x.sealed F ∧ RdP w' q2 l2 x.taken G ∧ Capd q1 x.sealed.length k1 ∧ Capd q2 l2 k2 ∧ Own w.heap.size w' F ∧ Own w.heap.size w' G ∧ (∀ b ∈ F, b ∉ G) ∧ Below w.heap.size w w' ∧
  GrowL itK 54 x.sealed lo x.sealed.length (.slice q1 x.sealed.length k1) vs GG w' ∧ w.heap.size ≤ lo ∧ ∀ b ∈ G, b < lo
end Go.Proofs.Ytjndcfamfminkar
/- The walks through the model's SetJoin. No statement of the seat is proved here. -/
namespace Go.Proofs.Ytjndcfamfminkar
open Go.RowKit
def joinTo (ps qs : Sp) (k : Nat) : Sp := (qs.take k).foldl (fun o q => put o q false) ps
def Sp.join (ps qs : Sp) : Sp := if (ps.ok && qs.ok) = true then joinTo ps qs qs.length else []
end Go.Proofs.Ytjndcfamfminkar
/- The walk through the model's AgentHear. No statement of the seat is proved here. -/
namespace Go.Proofs.Ytjndcfamfminkar
open Go.RowKit
def NewAg2 (w : World) (z : Ag × Int) (e : Ending) (w' : World) : Prop := ∃ v F G c, e = .returned (.tuple #[v, .int .i64 c]) ∧ RdAg w' v z.1 F G ∧ c = z.2 ∧ Own w.heap.size w' F ∧ Own w.heap.size w' G ∧ (∀ b ∈ F, b ∉ G) ∧ Below w.heap.size w w'
section
variable {P : Program} {ops : Array Oper} {Q : Exit → Act → World → Prop} {a : Act} {w : World} {o : Oper} {rest : List Oper} {x y : Operand}
theorem load_knownw8 (ty : TypeId) (g : Nat) (cells : Array Value) (t : TypeId) (d : TypeDesc) (hg : Blk w g cells t) (hw : Region.wanted o (yielded ops a.tmps) = true) (ho : o.op = .load ty x) (hx : a.eval x = .pointer (some ⟨g, 0, none⟩))
    (hu : P.underlying ty = some d) (hd : (match d with | .struct _ | .array _ _ => true | _ => false) = true) (hi : (P.info? ty).map (·.size) = some cells.size)
    (h : wpList P ops Q rest (a.put o.dst (.agg cells)) w) : Stop (wpList P ops Q (o :: rest) a w) := by
  refine wpList_step fun K hK => ?_
  rw [if_pos hw]
  unfold Oper.wp execOp
  simp only [ho, hx, Instr.loadAt, Instr.sureAddr, Sem.run_bind, Sem.run_pure, Result.andThen_ok, run_loadVar_row w g t ty cells (0, 0) d hg hu hd hi]
  exact hK _ _ h
end
structure HearW (w : World) (A B : Array Value) (L : Nat) (C : Array Value) (W : World) : Prop where
  box : Blk W w.heap.size A 25
  fr : Blk W (w.heap.size + 1) B 56
  res : Blk W (w.heap.size + 1 + 1) #[.int .i64 0, .int .i64 0, .bool false, .int .i64 0, .slice none 0 0, .slice none 0 0, .int .i64 0] 25
  loc : Blk W L C 25
  bel : Below w.heap.size w W
  ord : w.heap.size + 1 + 1 < L
theorem HearW.below {w W W' : World} {A B C : Array Value} {L : Nat} (h : HearW w A B L C W) (b : Below W.heap.size W W') : HearW w A B L C W' := ⟨h.box.below b, h.fr.below b, h.res.below b, h.loc.below b, Below.next h.bel b, h.ord⟩
theorem HearW.set {w W : World} {A B C : Array Value} {L : Nat} (h : HearW w A B L C W) (j : Nat) (v : Value) : HearW w A B L (C.setIfInBounds j v) (W.setCell ⟨L, j, none⟩ v) := by
  have o := h.ord
  have b : Below w.heap.size w (W.setCell ⟨L, j, none⟩ v) := h.bel.setCell (by show w.heap.size ≤ L; omega) v
  exact ⟨h.box.setOther (by omega) j v, h.fr.setOther (by omega) j v, h.res.setOther (by omega) j v, h.loc.set j v, b, o⟩
end Go.Proofs.Ytjndcfamfminkar
/- Two lists, two summaries held against each other, by the model and by the library. No statement of the seat is proved here. -/
namespace Go.Proofs.Ytjndcfamfminkar
open Go.RowKit
/-- The two boxes lie there, and nothing elder has changed. -/
structure Boxes (w : World) (A B : Array Value) (t : TypeId) (W : World) : Prop where
  fst : Blk W w.heap.size A t
  snd : Blk W (w.heap.size + 1) B t
  bel : Below w.heap.size w W
theorem Boxes.below {w W W' : World} {A B : Array Value} {t : TypeId} (h : Boxes w A B t W) (b : Below W.heap.size W W') : Boxes w A B t W' := ⟨h.fst.below b, h.snd.below b, Below.next h.bel b⟩
theorem Boxes.drew {w W : World} {A B : Array Value} {t : TypeId} (h : Boxes w A B t W) : Boxes w A B t W.drew := ⟨h.fst, h.snd, h.bel.drew⟩
end Go.Proofs.Ytjndcfamfminkar
/- A summary that is right, by the program. No statement of the seat is proved here. -/
namespace Go.Proofs.Ytjndcfamfminkar
open Go.RowKit
/-- Whether a summary's numbers, in one row, are right. -/
def okT (s : Sk) (xs : List Int) : Bool := s.shaped && inB xs && (if xs.getD 0 0 = 0 then decide (xs = List.replicate 28 0) else decide (xs.getD 2 0 ≤ xs.getD 3 0))
set_option maxRecDepth 200000 in
set_option maxHeartbeats 2000000 in
theorem okTally_any (v : Value) (s : Sk) (F : List Nat) (w : World) (h : RdSk w v s F) (hw : s.wide) :
    Calls Try.prog 99 #[v] w fun e w' => ∃ xs ys : List Int, e = .returned (.tuple #[.agg (tc ys), .bool (okT s xs)]) ∧ xs.length = 28 ∧ ys.length = 28 ∧ (s.shaped = true → xs = s.tl) ∧ (okT s xs = true → ys = xs) ∧ Below w.heap.size w w' := by
  have HH : Hid (RdSk w v s F ∧ s.wide) := ⟨h, hw⟩
  obtain ⟨a1, n1, c1, a2, n2, c2, a3, n3, c3, F1, F2, F3, rfl, h1, h2, h3, _⟩ := h
  clear h1 h2 h3 hw
  have Z28 := two_made w #[.int .i64 s.count, .int .i64 s.sum, .int .i64 s.min, .int .i64 s.max, .slice a1 n1 c1, .slice a2 n2 c2, .slice a3 n3 c3] (tc (List.replicate 28 0)) 44 125
  have HZ : Hid (_ ∧ _ ∧ _) := Z28
  clear Z28
  go_enter Try.func99, Try.ntmps99
  go_wp2_with fail
  refine (tallyOf_any _ s F _ (HH.out.1.below HZ.out.2.2) HH.out.2).mono ?_
  rintro e w1 ⟨xs, rfl, hxl, hxe, hb1⟩
  have HX : Hid (xs.length = 28 ∧ (s.shaped = true → xs = s.tl)) := ⟨hxl, hxe⟩
  have HB : Hid (Blk w1 (w.heap.size + 1) (tc (List.replicate 28 0)) 125 ∧ Below w.heap.size w w1) := ⟨HZ.out.2.1.below hb1, Below.next HZ.out.2.2 hb1⟩
  clear hb1 HZ hxl hxe
  go_wp2_with (with_reducible refine stopStore 125 rfl ?_)
  refine store_fresh 125 w1.heap.size rfl (tc (List.replicate 28 0)) (tc xs) 125 rfl rfl rfl rfl (tallySize HX.out.1) (by rw [tc_size, tc_size, HX.out.1]; rfl) (tc_one _) ?_
  intro W2 hg2 hb2
  have HG2 : Hid (Blk W2 w1.heap.size (tc xs) 125 ∧ Blk W2 (w.heap.size + 1) (tc (List.replicate 28 0)) 125 ∧ Below w.heap.size w W2) := ⟨hg2, HB.out.1.below hb2, Below.next HB.out.2 hb2⟩
  have hlt : w.heap.size + 1 < w1.heap.size := HB.out.1.lt
  clear hg2 hb2
  obtain ⟨d, hd⟩ : ∃ d, d = okT s xs := ⟨_, rfl⟩
  have HD : Hid (d = okT s xs) := hd
  clear hd
  cases es : s.shaped
  · have HN : Hid (okT s xs = false) := by show _ = false; unfold okT; rw [es]; rfl
    clear es
    go_wp2_with (first | go_skip | (with_reducible refine stopStore 125 rfl ?_))
    refine store_known 125 (w.heap.size + 1) _ (tc (List.replicate 28 0)) 125 HG2.out.2.1 rfl rfl rfl rfl infoTally rfl (tc_one _) ?_
    go_wp2
    refine bodyPost_ret (results_row_tmp Try.results99 _ _ (w.heap.size + 1) _ _ _ _ rfl HG2.out.2.1.setRow Try.underlying125 rfl infoTally) rfl ?_
    exact ⟨xs, List.replicate 28 0, by rw [HN.out]; rfl, HX.out.1, rfl, HX.out.2, fun e => by (rw [HN.out] at e; cases e), below_setRow HG2.out.2.2 (by omega) _⟩
  have ES : Hid (s.shaped = true) := es
  clear es
  go_wp2_with (first | go_skip | (with_reducible refine stopLoad 125 rfl ?_))
  refine load_part 125 w1.heap.size 0 28 xs 125 _ HG2.out.1 rfl rfl rfl Try.underlying125 rfl infoTally (by rw [HX.out.1]; omega) ?_
  rw [List.drop_zero, List.take_of_length_le (Nat.le_of_eq HX.out.1)]
  go_wp2_with fail
  refine (inBounds_any xs _ HX.out.1).mono ?_
  rintro e W3 ⟨rfl, hb3⟩
  have HG3 : Hid (Blk W3 w1.heap.size (tc xs) 125 ∧ Blk W3 (w.heap.size + 1) (tc (List.replicate 28 0)) 125 ∧ Below w.heap.size w W3) := ⟨HG2.out.1.below hb3, HG2.out.2.1.below hb3, Below.next HG2.out.2.2 hb3⟩
  clear hb3
  cases ei : inB xs
  · have HN : Hid (okT s xs = false) := by show _ = false; unfold okT; rw [ES.out, ei]; rfl
    clear ei
    go_wp2_with (first | go_skip | (with_reducible refine stopStore 125 rfl ?_))
    refine store_known 125 (w.heap.size + 1) _ (tc (List.replicate 28 0)) 125 HG3.out.2.1 rfl rfl rfl rfl infoTally rfl (tc_one _) ?_
    go_wp2
    refine bodyPost_ret (results_row_tmp Try.results99 _ _ (w.heap.size + 1) _ _ _ _ rfl HG3.out.2.1.setRow Try.underlying125 rfl infoTally) rfl ?_
    exact ⟨xs, List.replicate 28 0, by rw [HN.out]; rfl, HX.out.1, rfl, HX.out.2, fun e => by (rw [HN.out] at e; cases e), below_setRow HG3.out.2.2 (by omega) _⟩
  have EI : Hid (inB xs = true) := ei
  clear ei
  obtain ⟨x0, hx0⟩ : ∃ x, x = xs.getD 0 0 := ⟨_, rfl⟩
  obtain ⟨x2, hx2⟩ : ∃ x, x = xs.getD 2 0 := ⟨_, rfl⟩
  obtain ⟨x3, hx3⟩ : ∃ x, x = xs.getD 3 0 := ⟨_, rfl⟩
  have c0 : W3.cell? ⟨w1.heap.size, 0, none⟩ = some (.int .i64 x0) := by rw [HG3.out.1.cell, hx0]; exact tc_get (by rw [HX.out.1]; omega)
  have HC : Hid (∀ W, Blk W w1.heap.size (tc xs) 125 → W.cell? ⟨w1.heap.size, 2, none⟩ = some (.int .i64 x2) ∧ W.cell? ⟨w1.heap.size, 3, none⟩ = some (.int .i64 x3)) := fun W b => ⟨by rw [b.cell, hx2]; exact tc_get (by rw [HX.out.1]; omega), by rw [b.cell, hx3]; exact tc_get (by rw [HX.out.1]; omega)⟩
  have HXE : Hid (x0 = xs.getD 0 0 ∧ x2 = xs.getD 2 0 ∧ x3 = xs.getD 3 0) := ⟨hx0, hx2, hx3⟩
  clear hx0 hx2 hx3
  by_cases q0 : x0 = 0
  rotate_left
  · have q0' : (x0 == 0) = false := by simpa using q0
    have HV : Hid (okT s xs = decide (x2 ≤ x3)) := by
      show _ = _
      unfold okT
      rw [ES.out, EI.out, if_neg (by rw [← HXE.out.1]; exact q0), ← HXE.out.2.1, ← HXE.out.2.2]; rfl
    clear q0
    go_wp2
    refine wp_region_held (S := fun W => Blk W w1.heap.size (tc xs) 125) (by kernel_rfl) ?_
    change wpAnyH _ _ _ _ _ _ _ _ (World.drew _)
    have HS : Hid (Blk W3.drew w1.heap.size (tc xs) 125) := HG3.out.1.drew
    refine takeH (o := ?o1) 0 (.agg (tc xs)) ?h1 ?r1
    case h1 => simp only [aT, aZ]; rfl
    refine ⟨_, by simp [Act.put]; rfl, by kernel_rfl, by kernel_rfl, by kernel_rfl, fun _ _ _ h => h, (yields_whole 125 w1.heap.size (tc xs) 125 _ rfl rfl rfl Try.underlying125 rfl (tallySize HX.out.1) (fun W hW => hW)), HS.out, ?_⟩
    refine takeH (o := ?o2) 1 (.pointer (some ⟨w1.heap.size, 2, none⟩)) ?h2 ?r2
    case h2 => simp only [aT, aS, aZ]; rfl
    refine ⟨_, by simp [Act.put]; rfl, by kernel_rfl, by kernel_rfl, by kernel_rfl, fun _ _ _ h => h, (.inl ⟨rfl, fun W _ => by go_simp⟩), HS.out, ?_⟩
    refine takeH (o := ?o3) 2 (.int .i64 x2) ?h3 ?r3
    case h3 => simp only [aT, aS, aZ]; rfl
    refine ⟨_, by simp [Act.put]; rfl, by kernel_rfl, by kernel_rfl, by kernel_rfl, fun _ _ _ h => h, (.inl ⟨rfl, fun W hW => by have c := (HC.out W hW).1; go_simp⟩), HS.out, ?_⟩
    refine takeH (o := ?o4) 3 (.pointer (some ⟨w1.heap.size, 3, none⟩)) ?h4 ?r4
    case h4 => simp only [aT, aS, aZ]; rfl
    refine ⟨_, by simp [Act.put]; rfl, by kernel_rfl, by kernel_rfl, by kernel_rfl, fun _ _ _ h => h, (.inl ⟨rfl, fun W _ => by go_simp⟩), HS.out, ?_⟩
    refine takeH (o := ?o5) 4 (.int .i64 x3) ?h5 ?r5
    case h5 => simp only [aT, aS, aZ]; rfl
    refine ⟨_, by simp [Act.put]; rfl, by kernel_rfl, by kernel_rfl, by kernel_rfl, fun _ _ _ h => h, (.inl ⟨rfl, fun W hW => by have c := (HC.out W hW).2; go_simp⟩), HS.out, ?_⟩
    refine takeH (o := ?o6) 5 (.bool (decide (x2 ≤ x3))) ?h6 ?r6
    case h6 => simp only [aT, aS, aZ]; rfl
    refine ⟨_, by simp [Act.put]; rfl, by kernel_rfl, by kernel_rfl, by kernel_rfl, fun _ _ _ h => h, (.inl ⟨rfl, fun W _ => by go_simp⟩), HS.out, ?_⟩
    refine onlyH (o := ?o7) 6 (by kernel_rfl) ?h7 ?r7
    case h7 => simp only [aT, aS, aZ]; rfl
    intro K hK
    refine op_store 125 (w.heap.size + 1) (tc (List.replicate 28 0)) (tc xs) 125 rfl rfl rfl rfl HG3.out.2.1.drew (tallySize HX.out.1) (by rw [tc_size, tc_size, HX.out.1]; rfl) (tc_one _) ⟨_, by simp [Act.put]; rfl, hK _ _ ⟨HS.out.setRowOther (by omega), ?_⟩⟩
    clear hK
    refine onlyH (o := ?o8) 7 (by kernel_rfl) ?h8 ?r8
    case h8 => simp only [aT, aS, aZ]; rfl
    intro K hK
    refine op_value (.bool (decide (x2 ≤ x3))) rfl (by go_simp) ⟨_, by simp [Act.put]; rfl, hK _ _ ⟨HS.out.setRowOther (by omega), ?_⟩⟩
    clear hK
    refine wpAnyH_done (by kernel_rfl) ?_ _
    go_wp2
    refine bodyPost_ret (results_row_tmp Try.results99 _ _ (w.heap.size + 1) _ _ _ _ rfl HG3.out.2.1.drew.setRow Try.underlying125 rfl (tallySize HX.out.1)) rfl ?_
    exact ⟨xs, xs, by rw [HV.out]; rfl, HX.out.1, HX.out.1, HX.out.2, fun _ => rfl, below_setRow HG3.out.2.2.drew (by omega) _⟩
  subst q0
  have q0' : ((0 : Int) == 0) = true := by simp
  have HV : Hid (okT s xs = decide (xs = List.replicate 28 0)) := by
    show _ = _
    unfold okT
    rw [ES.out, EI.out, if_pos (HXE.out.1.symm)]; rfl
  go_wp2
  refine wp_region_held (S := fun W => Blk W w1.heap.size (tc xs) 125) (by kernel_rfl) ?_
  change wpAnyH _ _ _ _ _ _ _ _ (World.drew _)
  have HS : Hid (Blk W3.drew w1.heap.size (tc xs) 125) := HG3.out.1.drew
  refine takeH (o := ?o9) 0 (.agg (tc xs)) ?h9 ?r9
  case h9 => simp only [aT, aZ]; rfl
  refine ⟨_, by simp [Act.put]; rfl, by kernel_rfl, by kernel_rfl, by kernel_rfl, fun _ _ _ h => h, (yields_whole 125 w1.heap.size (tc xs) 125 _ rfl rfl rfl Try.underlying125 rfl (tallySize HX.out.1) (fun W hW => hW)), HS.out, ?_⟩
  refine takeH (o := ?o10) 1 (.agg (tc xs)) ?h10 ?r10
  case h10 => simp only [aT, aS, aZ]; rfl
  refine ⟨_, by simp [Act.put]; rfl, by kernel_rfl, by kernel_rfl, by kernel_rfl, fun _ _ _ h => h, (yields_whole 125 w1.heap.size (tc xs) 125 _ rfl rfl rfl Try.underlying125 rfl (tallySize HX.out.1) (fun W hW => hW)), HS.out, ?_⟩
  refine takeH (o := ?o11) 2 (.agg (tc (List.replicate 28 0))) ?h11 ?r11
  case h11 => simp only [aT, aS, aZ]; rfl
  refine ⟨_, by simp [Act.put]; rfl, by kernel_rfl, by kernel_rfl, by kernel_rfl, fun _ _ _ h => h, (.inl ⟨rfl, fun W _ => by go_simp; rfl⟩), HS.out, ?_⟩
  refine onlyH (o := ?o12) 3 (by kernel_rfl) ?h12 ?r12
  case h12 => simp only [aT, aS, aZ]; rfl
  intro K hK
  refine op_call2 107 _ _ _ Try.f107 (fun w' => Below W3.drew.heap.size W3.drew w') (.bool (decide (xs = List.replicate 28 0))) rfl rfl Try.func107 (by kernel_rfl) (by kernel_rfl) (same_any xs (List.replicate 28 0) _ HX.out.1 rfl) ⟨_, by simp [Act.put]; rfl, fun W4 hb4 => hK _ _ ⟨HS.out.below hb4, ?_⟩⟩
  have HG4 : Hid (Blk W4 w1.heap.size (tc xs) 125 ∧ Blk W4 (w.heap.size + 1) (tc (List.replicate 28 0)) 125 ∧ Below w.heap.size w W4) := ⟨HG3.out.1.drew.below hb4, HG3.out.2.1.drew.below hb4, Below.next HG3.out.2.2.drew hb4⟩
  clear hb4 hK
  refine onlyH (o := ?o13) 4 (by kernel_rfl) ?h13 ?r13
  case h13 => simp only [aT, aS, aZ]; rfl
  intro K hK
  refine op_store 125 (w.heap.size + 1) (tc (List.replicate 28 0)) (tc xs) 125 rfl rfl rfl rfl HG4.out.2.1 (tallySize HX.out.1) (by rw [tc_size, tc_size, HX.out.1]; rfl) (tc_one _) ⟨_, by simp [Act.put]; rfl, hK _ _ ⟨HG4.out.1.setRowOther (by omega), ?_⟩⟩
  clear hK
  refine onlyH (o := ?o14) 5 (by kernel_rfl) ?h14 ?r14
  case h14 => simp only [aT, aS, aZ]; rfl
  intro K hK
  refine op_value (.bool (decide (xs = List.replicate 28 0))) rfl (by go_simp) ⟨_, by simp [Act.put]; rfl, hK _ _ ⟨HG4.out.1.setRowOther (by omega), ?_⟩⟩
  clear hK
  refine wpAnyH_done (by kernel_rfl) ?_ _
  go_wp2
  refine bodyPost_ret (results_row_tmp Try.results99 _ _ (w.heap.size + 1) _ _ _ _ rfl HG4.out.2.1.setRow Try.underlying125 rfl (tallySize HX.out.1)) rfl ?_
  exact ⟨xs, xs, by rw [HV.out]; rfl, HX.out.1, HX.out.1, HX.out.2, fun _ => rfl, below_setRow HG4.out.2.2 (by omega) _⟩
end Go.Proofs.Ytjndcfamfminkar
/- What the program's row of numbers comes to: right just where the summary is; the sum is the merged summary. No statement of the seat is proved here. -/
namespace Go.Proofs.Ytjndcfamfminkar
open Go.RowKit
/-- A summary whose lists are as long as told, written out. -/
theorem Sk.written {s : Sk} (h : s.shaped = true) : ∃ h0 h1 h2 h3 h4 h5 h6 h7 r0 r1 r2 r3 r4 r5 r6 r7 p0 p1 p2 p3 q0 q1 q2 q3, s = ⟨s.count, s.sum, s.min, s.max, [h0, h1, h2, h3, h4, h5, h6, h7], [r0, r1, r2, r3, r4, r5, r6, r7], [[p0, p1, p2, p3], [q0, q1, q2, q3]]⟩ := by
  obtain ⟨e1, e2, x, y, e3, e4, e5⟩ := Sk.shaped_parts h
  obtain ⟨h0, h1, h2, h3, h4, h5, h6, h7, eh⟩ := len8 e1
  obtain ⟨r0, r1, r2, r3, r4, r5, r6, r7, er⟩ := len8 e2
  obtain ⟨p0, p1, p2, p3, rfl⟩ := len4 e4
  obtain ⟨q0, q1, q2, q3, rfl⟩ := len4 e5
  refine ⟨h0, h1, h2, h3, h4, h5, h6, h7, r0, r1, r2, r3, r4, r5, r6, r7, p0, p1, p2, p3, q0, q1, q2, q3, ?_⟩
  cases s
  simp_all
theorem okL_shape {l : List Int} {n : Nat} {m : Int} {z : Bool} (h : okL l n m z = true) : l.length = n := by
  unfold okL at h; simp at h; exact h.1
theorem Sk.ok_shaped {s : Sk} (h : s.ok = true) : s.shaped = true := by
  unfold Sk.ok okHead okLists at h
  simp only [Bool.and_eq_true, decide_eq_true_eq] at h
  obtain ⟨⟨⟨_, hr⟩, _⟩, ⟨⟨⟨l1, l2⟩, l3⟩, l4⟩⟩ := h
  have e1 := okL_shape l1; have e2 := okL_shape l2; have e3 := okL_shape l3; have e4 := okL_shape l4
  obtain ⟨x, y, e⟩ : ∃ x y, s.rows = [x, y] := by
    match s.rows, hr with
    | [x, y], _ => exact ⟨x, y, rfl⟩
  unfold Sk.shaped
  rw [e] at e3 e4 ⊢
  simp at e3 e4
  simp [e1, e2, e3, e4]
set_option maxHeartbeats 2000000 in
theorem okT_ok {s : Sk} {xs : List Int} (hx : s.shaped = true → xs = s.tl) : okT s xs = s.ok := by
  cases hs : s.shaped
  · have h1 : okT s xs = false := by unfold okT; rw [hs]; rfl
    rw [h1]
    cases ho : s.ok
    · rfl
    · rw [Sk.ok_shaped ho] at hs; cases hs
  · have hx := hx hs
    subst hx
    obtain ⟨h0, h1, h2, h3, h4, h5, h6, h7, r0, r1, r2, r3, r4, r5, r6, r7, p0, p1, p2, p3, q0, q1, q2, q3, e⟩ := Sk.written hs
    generalize s.count = c at e
    generalize s.sum = sm at e
    generalize s.min = mn at e
    generalize s.max = mx at e
    subst e
    rw [Bool.eq_iff_iff]
    unfold okT
    rw [hs]
    by_cases q : c = 0
    · subst q
      simp [inB, Sk.tl, Sk.ok, okHead, okZero, okLists, okL, okN, List.replicate]
      omega
    · simp [inB, Sk.tl, Sk.ok, okHead, okZero, okLists, okL, okN, q]
      omega
end Go.Proofs.Ytjndcfamfminkar
/- The walks through the program's SketchSame. No statement of the seat is proved here. -/
namespace Go.Proofs.Ytjndcfamfminkar
open Go.RowKit
end Go.Proofs.Ytjndcfamfminkar
/- The walks through the program's SketchOk. No statement of the seat is proved here. -/
namespace Go.Proofs.Ytjndcfamfminkar
open Go.RowKit
set_option maxRecDepth 200000 in
set_option maxHeartbeats 1000000 in
theorem okImpl_any (v : Value) (s : Sk) (F : List Nat) (w : World) (h : RdSk w v s F) (hw : s.wide) :
    Calls Try.prog 89 #[v] w fun e w' => e = .returned (.bool s.ok) ∧ Below w.heap.size w w' := by
  have HH : Hid (RdSk w v s F ∧ s.wide) := ⟨h, hw⟩
  obtain ⟨a1, n1, c1, a2, n2, c2, a3, n3, c3, F1, F2, F3, rfl, h1, h2, h3, _⟩ := h
  clear h1 h2 h3 hw
  have HT : Hid (Below w.heap.size w (w.alloc (.cells #[.int .i64 s.count, .int .i64 s.sum, .int .i64 s.min, .int .i64 s.max, .slice a1 n1 c1, .slice a2 n2 c2, .slice a3 n3 c3] 44))) := (Below.refl _ _).alloc (Nat.le_refl _) _
  go_enter Try.func89, Try.ntmps89
  go_wp2_with fail
  refine (okTally_any _ s F _ (HH.out.1.below HT.out) HH.out.2).mono ?_
  rintro e w1 ⟨xs, ys, rfl, _, hy, hx, _, hb1⟩
  have HB : Hid (ys.length = 28 ∧ okT s xs = s.ok ∧ Below w.heap.size w w1) := ⟨hy, okT_ok hx, Below.next HT.out hb1⟩
  clear hb1 hy hx
  go_wp2_with (with_reducible refine stopStore 125 rfl ?_)
  refine store_fresh 125 w1.heap.size rfl (tc (List.replicate 28 0)) (tc ys) 125 rfl rfl rfl rfl (tallySize HB.out.1) (by rw [tc_size, tc_size, HB.out.1]; rfl) (tc_one _) ?_
  intro W2 _ hb2
  have HB2 : Hid (Below w.heap.size w W2) := Below.next HB.out.2.2 hb2
  clear hb2
  go_wp2
  go_ret
  exact ⟨ret_bool HB.out.2.1, HB2.out⟩
end Go.Proofs.Ytjndcfamfminkar
/- Sets of numbers: what makes two of them the same, and what is made of both. No statement of the seat is proved here. -/
namespace Go.Proofs.Ytjndcfamfminkar
open Go.RowKit
/-- Right from l on: the spans rise, with a gap between any two. -/
def okFrom : Int → Sp → Prop
  | _, [] => True
  | l, p :: ps => (l ≤ p.1 ∧ p.1 ≤ p.2 ∧ p.2 ≤ 9999) ∧ okFrom (p.2 + 2) ps
/-- What is right, seen from the k-th span on. -/
def floorAt (ps : Sp) (k : Nat) : Int := if k = 0 then 0 else (ps.at (k - 1)).2 + 2
theorem okAt_iff (ps : Sp) (k : Nat) : ps.okAt k = true ↔ (if k = 0 then 0 else (ps.at (k - 1)).2 + 2) ≤ (ps.at k).1 ∧ 0 ≤ (ps.at k).1 ∧ (ps.at k).1 ≤ (ps.at k).2 ∧ (ps.at k).2 ≤ 9999 := by
  unfold Sp.okAt
  simp only [Bool.and_eq_true, Bool.or_eq_true, decide_eq_true_eq]
  split <;> omega
/-- A span is laid behind o: apart, or into its last one. -/
def lay1 (o : Sp) (x : Int × Int) : Sp := if o = [] ∨ (o.at (o.length - 1)).2 + 1 < x.1 then o ++ [x] else o.take (o.length - 1) ++ [((o.at (o.length - 1)).1, max (o.at (o.length - 1)).2 x.2)]
def lay (o xs : Sp) : Sp := xs.foldl lay1 o
/-- How many spans begin no later than n. -/
def cutN : Sp → Int → Nat
  | [], _ => 0
  | p :: ps, n => if p.1 ≤ n then cutN ps n + 1 else 0
/-- Both sets, gone through once; o: what has come. -/
def both : Sp → Sp → Sp → Sp
  | a, [], o => lay o a
  | a, x :: b, o => both (a.drop (cutN a x.1)) b (lay1 (lay o (a.take (cutN a x.1))) x)
/-- Right so far; the last span begins at m or ahead of it. -/
structure LayOk (o : Sp) (m : Int) : Prop where
  ok : okFrom 0 o
  le : ∀ o' t, o = o' ++ [t] → t.1 ≤ m
theorem LayOk.nil (m : Int) : LayOk [] m := ⟨trivial, fun o' t h => by simp at h⟩
theorem LayOk.up {o : Sp} {m m' : Int} (h : LayOk o m) (hm : m ≤ m') : LayOk o m' := ⟨h.ok, fun o' t e => Int.le_trans (h.le o' t e) hm⟩
end Go.Proofs.Ytjndcfamfminkar
/- The walks through the program's SetOk, SetHas and SetSize. No statement of the seat is proved here. -/
namespace Go.Proofs.Ytjndcfamfminkar
open Go.RowKit
theorem cells_of {w : World} {a : Option Addr} {len : Nat} {ps : Sp} {F : List Nat} (h : RdP w a len ps F) : len = 0 ∨ ∃ b off, a = some ⟨b, off, none⟩ ∧ b < w.heap.size ∧ SpCells w b off len ps := by
  rcases h.cells with ⟨h0, _⟩ | ⟨b, off, hp, e, _, hc⟩
  · exact .inl h0
  · exact .inr ⟨b, off, e, World.block_lt_of_cell? _ _ (hc 0 hp).1, hc⟩
theorem floorAt_succ (ps : Sp) (k : Nat) : floorAt ps (k + 1) = (ps.at k).2 + 2 := by unfold floorAt; rw [if_neg (by omega), show k + 1 - 1 = k by omega]
set_option maxRecDepth 200000 in
set_option maxHeartbeats 2000000 in
theorem setOkImpl_any (a : Option Addr) (len cap : Nat) (ps : Sp) (F : List Nat) (w : World) (h : RdP w a len ps F) (hlen : len ≤ 2097152) :
    Calls Try.prog 95 #[.slice a len cap] w fun e w' => e = .returned (.bool ps.ok) ∧ Below w.heap.size w w' := by
  have HL : Hid (ps.length = len) := h.length
  have HC : Hid (len = 0 ∨ ∃ b off, a = some ⟨b, off, none⟩ ∧ b < w.heap.size ∧ SpCells w b off len ps) := cells_of h
  clear h
  go_enter Try.func95, Try.ntmps95
  go_wp2
  go_loopw [3, 8] (fun q i wr => ∃ (k : Nat) (l : Int), k ≤ len ∧ i = .int .i64 k ∧ q = .int .i64 l ∧ 0 ≤ l ∧ l ≤ 10001 ∧ Hid (Below w.heap.size w wr) ∧ Hid (l = floorAt ps k ∧ ∀ j, j < k → ps.okAt j = true)) (fun _ i _ => len - (intOf i).toNat)
  case atStart => exact ⟨0, 0, by omega, rfl, rfl, by omega, by omega, Below.refl _ _, rfl, fun j hj => by omega⟩
  case round =>
    obtain ⟨k, l, hk, rfl, rfl, l0, l1, HB, HN⟩ := hrel
    by_cases hlt : k < len
    · have hca := HC.out
      rcases hca with h0 | ⟨b, off, rfl, hbw, hc⟩
      · omega
      obtain ⟨x, hx⟩ : ∃ x, x = (ps.at k).1 := ⟨_, rfl⟩
      obtain ⟨y, hy⟩ : ∃ x, x = (ps.at k).2 := ⟨_, rfl⟩
      have e := hc k hlt
      rw [← hx, ← hy] at e
      have d1 : wr.cell? ⟨b, off + k * 2, none⟩ = some (.int .i64 x) := (HB.out.cell (by exact hbw)).trans e.1
      have d2 : wr.cell? ⟨b, off + k * 2 + 1, none⟩ = some (.int .i64 y) := (HB.out.cell (by exact hbw)).trans e.2
      have HX : Hid (x = (ps.at k).1 ∧ y = (ps.at k).2) := ⟨hx, hy⟩
      have HB2 : Hid (Below w.heap.size w (wr.alloc (.cells #[.int .i64 x, .int .i64 y] 107))) := Below.allocW _ HB.out (Nat.le_refl _)
      have HOK : Hid (ps.okAt k = true ↔ l ≤ x ∧ 0 ≤ x ∧ x ≤ y ∧ y ≤ 9999) := by
        have := okAt_iff ps k
        rw [← hx, ← hy] at this
        rw [HN.out.1]
        exact this
      have hI : (k : Int) < (len : Int) := by omega
      have hkl : k < ps.length := by rw [HL.out]; exact hlt
      clear e hx hy hc HB
      by_cases c1 : x < l
      · have c1d : decide (x < l) = true := decT c1
        have HV : Hid (ps.ok = false) := Sp.ok_not hkl (by rw [Bool.eq_false_iff]; exact fun e => by have := HOK.out.1 e; omega)
        go_wp2
        go_ret
        rw [HV.out]
        exact ⟨rfl, HB2.out⟩
      have c1d : decide (x < l) = false := decF c1
      by_cases c2 : y < x
      · have c2d : decide (y < x) = true := decT c2
        have HV : Hid (ps.ok = false) := Sp.ok_not hkl (by rw [Bool.eq_false_iff]; exact fun e => by have := HOK.out.1 e; omega)
        go_wp2
        go_ret
        rw [HV.out]
        exact ⟨rfl, HB2.out⟩
      have c2d : decide (y < x) = false := decF c2
      by_cases c3 : 9999 < y
      · have c3d : decide (9999 < y) = true := decT c3
        have HV : Hid (ps.ok = false) := Sp.ok_not hkl (by rw [Bool.eq_false_iff]; exact fun e => by have := HOK.out.1 e; omega)
        go_wp2
        go_ret
        rw [HV.out]
        exact ⟨rfl, HB2.out⟩
      have c3d : decide (9999 < y) = false := decF c3
      have HN2 : Hid (y + 2 = floorAt ps (k + 1) ∧ ∀ j, j < k + 1 → ps.okAt j = true) := ⟨by rw [floorAt_succ, HX.out.2], all_up HN.out.2 (HOK.out.2 ⟨by omega, by omega, by omega, by omega⟩)⟩
      go_wp2
      go_roundw
      case rel => exact ⟨k + 1, y + 2, by omega, by go_num, by go_num, by omega, by omega, HB2, HN2⟩
      case measure => simp [intOf]; omega
    · obtain rfl : k = len := by omega
      have HV : Hid (ps.ok = true) := Sp.ok_all (fun j hj => HN.out.2 j (by rw [← HL.out]; exact hj))
      go_wp2
      go_ret
      rw [HV.out]
      exact ⟨rfl, HB.out⟩
set_option maxRecDepth 200000 in
set_option maxHeartbeats 2000000 in
theorem hasImpl_any (a : Option Addr) (len cap : Nat) (ps : Sp) (n : Int) (F : List Nat) (w : World) (h : RdP w a len ps F) (hlen : len ≤ 2097152) :
    Calls Try.prog 59 #[.slice a len cap, .int .i64 n] w fun e w' => e = .returned (.bool (ps.has n)) ∧ Below w.heap.size w w' := by
  have HL : Hid (ps.length = len) := h.length
  have HC : Hid (len = 0 ∨ ∃ b off, a = some ⟨b, off, none⟩ ∧ b < w.heap.size ∧ SpCells w b off len ps) := cells_of h
  clear h
  go_enter Try.func59, Try.ntmps59
  go_wp2
  go_loopw [9] (fun i wr => ∃ (k : Nat), k ≤ len ∧ i = .int .i64 k ∧ Hid (Below w.heap.size w wr) ∧ Hid (∀ j, j < k → ¬ ((ps.at j).1 ≤ n ∧ n ≤ (ps.at j).2))) (fun i _ => len - (intOf i).toNat)
  case atStart => exact ⟨0, by omega, rfl, Below.refl _ _, fun j hj => by omega⟩
  case round =>
    obtain ⟨k, hk, rfl, HB, HN⟩ := hrel
    by_cases hlt : k < len
    · have hca := HC.out
      rcases hca with h0 | ⟨b, off, rfl, hbw, hc⟩
      · omega
      obtain ⟨x, hx⟩ : ∃ x, x = (ps.at k).1 := ⟨_, rfl⟩
      obtain ⟨y, hy⟩ : ∃ x, x = (ps.at k).2 := ⟨_, rfl⟩
      have e := hc k hlt
      rw [← hx, ← hy] at e
      have d1 : wr.cell? ⟨b, off + k * 2, none⟩ = some (.int .i64 x) := (HB.out.cell (by exact hbw)).trans e.1
      have d2 : wr.cell? ⟨b, off + k * 2 + 1, none⟩ = some (.int .i64 y) := (HB.out.cell (by exact hbw)).trans e.2
      have HX : Hid (x = (ps.at k).1 ∧ y = (ps.at k).2) := ⟨hx, hy⟩
      have HB2 : Hid (Below w.heap.size w (wr.alloc (.cells #[.int .i64 x, .int .i64 y] 107))) := Below.allocW _ HB.out (Nat.le_refl _)
      have hI : (k : Int) < (len : Int) := by omega
      have hkl : k < ps.length := by rw [HL.out]; exact hlt
      clear e hx hy hc HB
      by_cases hin : x ≤ n ∧ n ≤ y
      · have HV : Hid (ps.has n = true) := Sp.has_at hkl (by rw [← HX.out.1, ← HX.out.2]; exact hin)
        have c1d : decide (x ≤ n) = true := decT hin.1
        have c2d : decide (n ≤ y) = true := decT hin.2
        go_wp2
        go_ret
        rw [HV.out]
        exact ⟨rfl, HB2.out⟩
      have HN2 : Hid (∀ j, j < k + 1 → ¬ ((ps.at j).1 ≤ n ∧ n ≤ (ps.at j).2)) := all_up HN.out (by rw [← HX.out.1, ← HX.out.2]; exact hin)
      by_cases c1 : x ≤ n
      · have c1d : decide (x ≤ n) = true := decT c1
        have c2d : decide (n ≤ y) = false := decF (fun e => hin ⟨c1, e⟩)
        clear hin c1
        go_wp2
        go_roundw
        case rel => exact ⟨k + 1, by omega, by go_num, HB2, HN2⟩
        case measure => simp [intOf]; omega
      · have c1d : decide (x ≤ n) = false := decF c1
        clear hin c1
        go_wp2
        go_roundw
        case rel => exact ⟨k + 1, by omega, by go_num, HB2, HN2⟩
        case measure => simp [intOf]; omega
    · obtain rfl : k = len := by omega
      have HV : Hid (ps.has n = false) := Sp.has_not (fun j hj => HN.out j (by rw [← HL.out]; exact hj))
      go_wp2
      go_ret
      rw [HV.out]
      exact ⟨rfl, HB.out⟩
end Go.Proofs.Ytjndcfamfminkar
/- The walks through the program's IdOf, ItemOk and the reading of an entry. No statement of the seat is proved here. -/
namespace Go.Proofs.Ytjndcfamfminkar
open Go.RowKit
set_option maxRecDepth 200000 in
theorem isSeq_any (n : Int) (w : World) : Calls Try.prog 87 #[.int .i64 n] w fun e w' => e = .returned (.bool (decide (1 ≤ n ∧ n ≤ 60))) ∧ w' = w := by
  have hd : ∀ d : Bool, d = decide (1 ≤ n ∧ n ≤ 60) → (d = true ↔ 1 ≤ n ∧ n ≤ 60) := by rintro d rfl; simp
  generalize decide (1 ≤ n ∧ n ≤ 60) = d at *
  have hd := hd d rfl
  by_cases h : 1 ≤ n
  · by_cases h2 : n ≤ 60
    · have e : Hid (d = true) := hd.2 ⟨h, h2⟩
      clear hd
      go_enter Try.func87, Try.ntmps87
      go_wp2
      go_ret
      rw [e.out]; exact ⟨rfl, rfl⟩
    · have e : Hid (d = false) := show d = false by cases d; rfl; exact absurd (hd.1 rfl).2 h2
      clear hd
      go_enter Try.func87, Try.ntmps87
      go_wp2
      go_ret
      rw [e.out]; exact ⟨rfl, rfl⟩
  · have e : Hid (d = false) := show d = false by cases d; rfl; exact absurd (hd.1 rfl).1 h
    clear hd
    go_enter Try.func87, Try.ntmps87
    go_wp2
    go_ret
    rw [e.out]; exact ⟨rfl, rfl⟩
set_option maxRecDepth 200000 in
theorem isPlace_any (k p : Int) (w : World) : Calls Try.prog 88 #[.agg #[.int .i64 k, .int .i64 p]] w fun e w' => e = .returned (.bool (placeOk k p)) ∧ Below w.heap.size w w' := by
  have HB : Hid (Below w.heap.size w (w.alloc (.cells #[.int .i64 k, .int .i64 p] 113))) := (Below.refl _ _).alloc (Nat.le_refl _) _
  go_enter Try.func88, Try.ntmps88
  go_wp2_with fail
  refine (inRange_any _ _ _).mono ?_
  rintro e w2 ⟨rfl, hw2⟩
  have hw2' := hw2.symm
  subst hw2'
  clear hw2
  obtain ⟨d1, hd1⟩ : ∃ d, d = decide (0 ≤ k ∧ k ≤ 4) := ⟨_, rfl⟩
  rw [← hd1]
  have HD1 : Hid (d1 = decide (0 ≤ k ∧ k ≤ 4)) := hd1
  clear hd1
  cases d1
  · have HV : Hid (placeOk k p = false) := by show _ = _; unfold placeOk; rw [← HD1.out]; rfl
    go_wp2
    go_ret
    exact ⟨ret_bool HV.out.symm, HB.out⟩
  go_wp2_with fail
  refine (inRange_any _ _ _).mono ?_
  rintro e w2 ⟨rfl, hw2⟩
  have hw2' := hw2.symm
  subst hw2'
  clear hw2
  obtain ⟨d2, hd2⟩ : ∃ d, d = decide (0 ≤ p ∧ p ≤ 20) := ⟨_, rfl⟩
  rw [← hd2]
  have HV : Hid (d2 = placeOk k p) := by show _ = _; unfold placeOk; rw [← HD1.out, ← hd2]; rfl
  clear hd2
  go_wp2
  go_ret
  exact ⟨ret_bool HV.out, HB.out⟩
set_option maxRecDepth 200000 in
set_option maxHeartbeats 2000000 in
theorem itemOkImpl_any (v : Value) (x : It) (F : List Nat) (w : World) (h : RdIt w v x F) (hw : x.sk.wide) :
    Calls Try.prog 55 #[v] w fun e w' => e = .returned (.bool x.ok) ∧ Below w.heap.size w w' := by
  obtain ⟨a1, n1, c1, a2, n2, c2, a3, n3, c3, rfl, hr⟩ := h
  have HR : Hid (RdSk w (.agg #[.int .i64 x.sk.count, .int .i64 x.sk.sum, .int .i64 x.sk.min, .int .i64 x.sk.max, .slice a1 n1 c1, .slice a2 n2 c2, .slice a3 n3 c3]) x.sk F ∧ x.sk.wide) := ⟨hr, hw⟩
  have HB : Hid (Below w.heap.size w (w.alloc (.cells #[.int .i64 x.seq, .int .i64 x.cls, .int .i64 x.key, .int .i64 x.window, .int .i64 x.sk.count, .int .i64 x.sk.sum, .int .i64 x.sk.min, .int .i64 x.sk.max, .slice a1 n1 c1, .slice a2 n2 c2, .slice a3 n3 c3] 54)) ∧ Blk (w.alloc (.cells #[.int .i64 x.seq, .int .i64 x.cls, .int .i64 x.key, .int .i64 x.window, .int .i64 x.sk.count, .int .i64 x.sk.sum, .int .i64 x.sk.min, .int .i64 x.sk.max, .slice a1 n1 c1, .slice a2 n2 c2, .slice a3 n3 c3] 54)) w.heap.size #[.int .i64 x.seq, .int .i64 x.cls, .int .i64 x.key, .int .i64 x.window, .int .i64 x.sk.count, .int .i64 x.sk.sum, .int .i64 x.sk.min, .int .i64 x.sk.max, .slice a1 n1 c1, .slice a2 n2 c2, .slice a3 n3 c3] 54) := ⟨Below.allocW _ (Below.refl _ _) (Nat.le_refl _), Blk.made _ _ _⟩
  clear hr hw
  go_enter Try.func55, Try.ntmps55
  go_wp2_with fail
  refine (isSeq_any _ _).mono ?_
  rintro e w2 ⟨rfl, hw2⟩
  have hw2' := hw2.symm
  subst hw2'
  clear hw2
  obtain ⟨d1, hd1⟩ : ∃ d, d = decide (1 ≤ x.seq ∧ x.seq ≤ 60) := ⟨_, rfl⟩
  rw [← hd1]
  have HD1 : Hid (d1 = decide (1 ≤ x.seq ∧ x.seq ≤ 60)) := hd1
  clear hd1
  cases d1
  · have HV : Hid (x.ok = false) := by show _ = _; unfold It.ok; rw [← HD1.out]; rfl
    go_wp2
    go_ret
    exact ⟨ret_bool HV.out.symm, HB.out.1⟩
  go_wp2_with fail
  refine (inRange_any _ _ _).mono ?_
  rintro e w2 ⟨rfl, hw2⟩
  have hw2' := hw2.symm
  subst hw2'
  clear hw2
  obtain ⟨d2, hd2⟩ : ∃ d, d = decide (0 ≤ x.cls ∧ x.cls ≤ 1) := ⟨_, rfl⟩
  rw [← hd2]
  have HD2 : Hid (d2 = decide (0 ≤ x.cls ∧ x.cls ≤ 1)) := hd2
  clear hd2
  cases d2
  · have HV : Hid (x.ok = false) := by show _ = _; unfold It.ok; rw [← HD1.out, ← HD2.out]; rfl
    go_wp2
    go_ret
    exact ⟨ret_bool HV.out.symm, HB.out.1⟩
  go_wp2_with fail
  refine (isPlace_any _ _ _).mono ?_
  rintro e w2 ⟨rfl, hb2⟩
  have HB2 : Hid (Below w.heap.size w w2 ∧ Blk w2 w.heap.size #[.int .i64 x.seq, .int .i64 x.cls, .int .i64 x.key, .int .i64 x.window, .int .i64 x.sk.count, .int .i64 x.sk.sum, .int .i64 x.sk.min, .int .i64 x.sk.max, .slice a1 n1 c1, .slice a2 n2 c2, .slice a3 n3 c3] 54) := ⟨Below.next HB.out.1 hb2, HB.out.2.below hb2⟩
  clear hb2
  obtain ⟨d3, hd3⟩ : ∃ d, d = placeOk x.key x.window := ⟨_, rfl⟩
  rw [← hd3]
  have HD3 : Hid (d3 = placeOk x.key x.window) := hd3
  clear hd3
  cases d3
  · have HV : Hid (x.ok = false) := by show _ = _; unfold It.ok; rw [← HD1.out, ← HD2.out, ← HD3.out]; rfl
    go_wp2
    go_ret
    exact ⟨ret_bool HV.out.symm, HB2.out.1⟩
  go_wp2_with (first | go_skip | (with_reducible refine stopLoad 44 rfl ?_))
  refine load_cutw 44 w.heap.size 4 7 _ #[.int .i64 x.sk.count, .int .i64 x.sk.sum, .int .i64 x.sk.min, .int .i64 x.sk.max, .slice a1 n1 c1, .slice a2 n2 c2, .slice a3 n3 c3] 54 _ HB2.out.2 rfl rfl rfl Try.underlying44 rfl infoSkI (by simp) rfl ?_
  go_wp2_with fail
  refine (okImpl_any _ x.sk F _ (HR.out.1.below HB2.out.1) HR.out.2).mono ?_
  rintro e w3 ⟨rfl, hb3⟩
  have HB3 : Hid (Below w.heap.size w w3) := Below.next HB2.out.1 hb3
  have HV : Hid (x.ok = x.sk.ok) := by show _ = _; unfold It.ok; rw [← HD1.out, ← HD2.out, ← HD3.out]; rfl
  clear hb3
  obtain ⟨d4, hd4⟩ : ∃ d, d = x.sk.ok := ⟨_, rfl⟩
  rw [← hd4] at HV ⊢
  clear hd4
  go_wp2
  go_ret
  exact ⟨ret_bool HV.out.symm, HB3.out⟩
/-- The cells of an entry as the program holds it. -/
def hc (k p : Int) (a : Option Addr) (l c : Nat) (ys : List Int) : Array Value := (.int .i64 k :: .int .i64 p :: .slice a l c :: ys.map (Value.int .i64)).toArray
section
variable {P : Program} {ops : Array Oper} {Q : Exit → Act → World → Prop} {rest : List Oper} {a : Act} {w : World} {o : Oper}
end
end Go.Proofs.Ytjndcfamfminkar
/- The walks through the program's itemSame, FrameSame, areSeqs, itemFits and FrameOk. No statement of the seat is proved here. -/
namespace Go.Proofs.Ytjndcfamfminkar
open Go.RowKit
set_option maxRecDepth 200000 in
set_option maxHeartbeats 2000000 in
theorem areSeqs_any (a : Option Addr) (len cap : Nat) (m : Int) (ps : Sp) (F : List Nat) (w : World) (h : RdP w a len ps F) (hlen : len ≤ 2097152) :
    Calls Try.prog 80 #[.slice a len cap, .int .i64 m] w fun e w' => e = .returned (.bool (ps.ok && ps.under m)) ∧ Below w.heap.size w w' := by
  have HL : Hid (ps.length = len ∧ RdP w a len ps F) := ⟨h.length, h⟩
  have HC : Hid (len = 0 ∨ ∃ b off, a = some ⟨b, off, none⟩ ∧ b < w.heap.size ∧ SpCells w b off len ps) := cells_of h
  clear h
  go_enter Try.func80, Try.ntmps80
  go_wp2
  go_loopw [9] (fun i wr => ∃ (k : Nat), k ≤ len ∧ i = .int .i64 k ∧ Hid (Below w.heap.size w wr) ∧ Hid (∀ j, j < k → 1 ≤ (ps.at j).1 ∧ (ps.at j).2 ≤ m)) (fun i _ => len - (intOf i).toNat)
  case atStart => exact ⟨0, by omega, rfl, Below.refl _ _, fun j hj => by omega⟩
  case round =>
    obtain ⟨k, hk, rfl, HB, HN⟩ := hrel
    by_cases hlt : k < len
    · have hca := HC.out
      rcases hca with h0 | ⟨b, off, rfl, hbw, hc⟩
      · omega
      obtain ⟨x, hx⟩ : ∃ x, x = (ps.at k).1 := ⟨_, rfl⟩
      obtain ⟨y, hy⟩ : ∃ x, x = (ps.at k).2 := ⟨_, rfl⟩
      have e := hc k hlt
      rw [← hx, ← hy] at e
      have d1 : wr.cell? ⟨b, off + k * 2, none⟩ = some (.int .i64 x) := (HB.out.cell (by exact hbw)).trans e.1
      have d2 : wr.cell? ⟨b, off + k * 2 + 1, none⟩ = some (.int .i64 y) := (HB.out.cell (by exact hbw)).trans e.2
      have HX : Hid (x = (ps.at k).1 ∧ y = (ps.at k).2 ∧ k < ps.length) := ⟨hx, hy, by rw [HL.out.1]; exact hlt⟩
      have HB2 : Hid (Below w.heap.size w (wr.alloc (.cells #[.int .i64 x, .int .i64 y] 107))) := Below.allocW _ HB.out (Nat.le_refl _)
      have hI : (k : Int) < (len : Int) := by omega
      clear e hx hy hc HB
      by_cases h1 : x < 1
      · have HV : Hid ((ps.ok && ps.under m) = false) := by
          show _ = _
          rw [Sp.under_not HX.out.2.2 (fun e => absurd e.1 (by rw [← HX.out.1]; omega)), Bool.and_false]
        go_wp2
        go_ret
        exact ⟨ret_bool HV.out.symm, HB2.out⟩
      by_cases h2 : m < y
      · have HV : Hid ((ps.ok && ps.under m) = false) := by
          show _ = _
          rw [Sp.under_not HX.out.2.2 (fun e => absurd e.2 (by rw [← HX.out.2.1]; omega)), Bool.and_false]
        go_wp2
        go_ret
        exact ⟨ret_bool HV.out.symm, HB2.out⟩
      have HN2 : Hid (∀ j, j < k + 1 → 1 ≤ (ps.at j).1 ∧ (ps.at j).2 ≤ m) := all_up HN.out ⟨by rw [← HX.out.1]; omega, by rw [← HX.out.2.1]; omega⟩
      go_wp2
      go_roundw
      case rel => exact ⟨k + 1, by omega, by go_num, HB2, HN2⟩
      case measure => simp [intOf]; omega
    · obtain rfl : k = len := by omega
      have HV : Hid (ps.under m = true) := Sp.under_all (fun j hj => HN.out j (by have := HL.out.1; omega))
      go_wp2_with fail
      refine (setOkImpl_any a k cap ps F _ (HL.out.2.below HB.out) hlen).mono ?_
      rintro e w2 ⟨rfl, hb2⟩
      have HB2 : Hid (Below w.heap.size w w2) := Below.next HB.out hb2
      clear hb2
      obtain ⟨d, hd⟩ : ∃ d, d = ps.ok := ⟨_, rfl⟩
      rw [← hd]
      have HD : Hid (d = ps.ok) := hd
      clear hd
      go_wp2
      go_ret
      rw [HV.out, Bool.and_true]
      exact ⟨ret_bool HD.out, HB2.out⟩
end Go.Proofs.Ytjndcfamfminkar
/- The walk through the model's AgentNew. No statement of the seat is proved here. -/
namespace Go.Proofs.Ytjndcfamfminkar
open Go.RowKit
def Ag.zero : Ag := ⟨0, 0, false, 0, [], [], 0⟩
def Ag.fresh (n : Int) : Ag := ⟨n, 0, false, 0, [], [], 0⟩
/-- A new agent, or none. -/
def Ag.made (n : Int) : Ag := if (Ag.fresh n).ok = true then Ag.fresh n else Ag.zero
end Go.Proofs.Ytjndcfamfminkar
/- The walks through the model's Waiting and AgentNew. No statement of the seat is proved here. -/
namespace Go.Proofs.Ytjndcfamfminkar
open Go.RowKit
/-- Of the numbers 1 to k those that are not taken. -/
def waitTo (ps : Sp) : Nat → List Int
  | 0 => []
  | k + 1 => waitTo ps k ++ (if ps.has ((k : Int) + 1) = true then [] else [(k : Int) + 1])
theorem waitTo_len (ps : Sp) : ∀ k, (waitTo ps k).length ≤ k
  | 0 => by simp [waitTo]
  | k + 1 => by
    have := waitTo_len ps k
    rw [waitTo, List.length_append]
    split <;> simp <;> omega
theorem own_mono8 {w : World} {B B' e size n : Nat} {v : Value} {xs : List Value} (h : w.ownsRow B e size v n xs) (hB : B' ≤ B) : w.ownsRow B' e size v n xs := by
  refine ⟨h.1, ?_⟩
  rcases h.2 with q | ⟨g, cap, cur, h1, h2, h3⟩
  · exact .inl q
  · exact .inr ⟨g, cap, cur, h1, by omega, h3⟩
/-- How many come into question. -/
def Ag.upTo (x : Ag) : Nat := min x.sealed.length x.granted.toNat
def Ag.waits (x : Ag) : List Int := if x.ok = true ∧ x.live = true then waitTo x.taken x.upTo else []
theorem infoAgW : (Try.prog.info? 25).map (·.size) = some 7 := by kernel_rfl
set_option maxRecDepth 200000 in
set_option maxHeartbeats 4000000 in
theorem waiting_any (v : Value) (x : Ag) (F G : List Nat) (w : World) (h : RdAg w v x F G) (hw : ∀ y ∈ x.sealed, y.sk.wide) (hs : x.sealed.length ≤ 1048576) (hl : x.taken.length ≤ 1048576) :
    Calls Try.prog 21 #[v] w fun e w' => (∃ u, e = .returned u ∧ w'.ownsRow w.heap.size 3 1 u x.waits.length (x.waits.map (Value.int .i64))) ∧ Below w.heap.size w w' := by
  obtain ⟨i0, hi, hz0, hz1, hz2⟩ := info_parts infoInt
  obtain ⟨a1, n1, c1, a2, n2, c2, rfl, hL, hP, hc1, hc2⟩ := h
  obtain ⟨lx, hlx⟩ : ∃ b, b = x.live := ⟨_, rfl⟩
  have HX : Hid (RdAg w (.agg #[.int .i64 x.id, .int .i64 x.epoch, .bool lx, .int .i64 x.granted, .slice a1 n1 c1, .slice a2 n2 c2, .int .i64 x.next]) x F G) := ⟨a1, n1, c1, a2, n2, c2, by rw [hlx], hL, hP, hc1, hc2⟩
  rw [← hlx]
  have HLX : Hid (lx = x.live ∧ x.sealed.length = n1) := ⟨hlx, hL.length⟩
  have HW : Hid (∀ y ∈ x.sealed, y.sk.wide) := hw
  have HP : Hid (RdP w a2 n2 x.taken G) := hP
  have hn1 : n1 ≤ 1048576 := by rw [← hL.length]; exact hs
  have hn2 : n2 ≤ 1048576 := by rw [← hP.length]; exact hl
  have HB : Hid (Below w.heap.size w ((w.alloc (.cells #[.int .i64 x.id, .int .i64 x.epoch, .bool lx, .int .i64 x.granted, .slice a1 n1 c1, .slice a2 n2 c2, .int .i64 x.next] 25)).alloc (.cells #[] 3)) ∧ Blk ((w.alloc (.cells #[.int .i64 x.id, .int .i64 x.epoch, .bool lx, .int .i64 x.granted, .slice a1 n1 c1, .slice a2 n2 c2, .int .i64 x.next] 25)).alloc (.cells #[] 3)) w.heap.size #[.int .i64 x.id, .int .i64 x.epoch, .bool lx, .int .i64 x.granted, .slice a1 n1 c1, .slice a2 n2 c2, .int .i64 x.next] 25 ∧ ((w.alloc (.cells #[.int .i64 x.id, .int .i64 x.epoch, .bool lx, .int .i64 x.granted, .slice a1 n1 c1, .slice a2 n2 c2, .int .i64 x.next] 25)).alloc (.cells #[] 3)).ownsRow (w.heap.size + 1) 3 1 (.slice (some ⟨w.heap.size + 1, 0, none⟩) 0 0) 0 []) := by
    have hz : (w.alloc (.cells #[.int .i64 x.id, .int .i64 x.epoch, .bool lx, .int .i64 x.granted, .slice a1 n1 c1, .slice a2 n2 c2, .int .i64 x.next] 25)).heap.size = w.heap.size + 1 := by simp
    refine ⟨Below.allocW _ (Below.allocW _ (Below.refl _ _) (Nat.le_refl _)) (Nat.le_refl _), (Blk.made _ _ _).alloc _, ?_⟩
    have := own_empty (w.alloc (.cells #[.int .i64 x.id, .int .i64 x.epoch, .bool lx, .int .i64 x.granted, .slice a1 n1 c1, .slice a2 n2 c2, .int .i64 x.next] 25)) 3
    rw [hz] at this
    exact this
  clear hL hP hw hl hlx hc1 hc2
  go_enter Try.func21, Try.ntmps21
  go_wp2_with (first | go_skip | (with_reducible refine stopLoad 25 rfl ?_))
  obtain ⟨W0, hW0⟩ : ∃ W, W = (w.alloc (.cells #[.int .i64 x.id, .int .i64 x.epoch, .bool lx, .int .i64 x.granted, .slice a1 n1 c1, .slice a2 n2 c2, .int .i64 x.next] 25)).alloc (.cells #[] 3) := ⟨_, rfl⟩
  rw [← hW0] at HB ⊢
  clear hW0
  refine load_known 25 w.heap.size _ 25 _ HB.out.2.1 rfl rfl rfl Try.underlying25 rfl infoAgW ?_
  go_wp2_with fail
  refine (agentOkSpec_any _ x F G _ (HX.out.below HB.out.1) HW.out (by omega) (by have := HP.out.length; omega)).mono ?_
  rintro e w1 ⟨rfl, hb1⟩
  have HB1 : Hid (Below w.heap.size w w1 ∧ Blk w1 w.heap.size #[.int .i64 x.id, .int .i64 x.epoch, .bool lx, .int .i64 x.granted, .slice a1 n1 c1, .slice a2 n2 c2, .int .i64 x.next] 25 ∧ w1.ownsRow (w.heap.size + 1) 3 1 (.slice (some ⟨w.heap.size + 1, 0, none⟩) 0 0) 0 []) := ⟨Below.next HB.out.1 hb1, HB.out.2.1.below hb1, ownsRow_below HB.out.2.2 hb1⟩
  obtain ⟨d, hd⟩ : ∃ d, d = x.ok := ⟨_, rfl⟩
  rw [← hd]
  have HD : Hid (d = x.ok) := hd
  clear hb1 hd HB
  have q2 := HB1.out.2.1.cell 2
  simp only [aT, aS, aZ] at q2
  cases d
  · have HV : Hid (x.waits = []) := by show _ = _; unfold Ag.waits; rw [← HD.out]; rfl
    go_wp2
    go_ret
    rw [HV.out]
    exact ⟨⟨_, rfl, own_mono8 HB1.out.2.2 (by omega)⟩, HB1.out.1⟩
  cases lx
  · have HV : Hid (x.waits = []) := by show _ = _; unfold Ag.waits; rw [← HLX.out.1]; simp
    go_wp2
    go_ret
    rw [HV.out]
    exact ⟨⟨_, rfl, own_mono8 HB1.out.2.2 (by omega)⟩, HB1.out.1⟩
  have HV : Hid (x.waits = waitTo x.taken x.upTo) := by show _ = _; unfold Ag.waits; rw [if_pos ⟨HD.out.symm, HLX.out.1.symm⟩]
  obtain ⟨m, hm⟩ : ∃ m, m = x.upTo := ⟨_, rfl⟩
  rw [← hm] at HV
  have HM : Hid (m = min n1 x.granted.toNat) := by show _ = _; rw [hm]; unfold Ag.upTo; rw [HLX.out.2]
  have hmn : m ≤ n1 := by rw [HM.out]; exact Nat.min_le_left _ _
  clear hm HD
  go_wp2_with fail
  clear q2
  go_loopw [3, 4] (fun v i wr => ∃ (k : Nat), k ≤ m ∧ i = .int .i64 ((k : Int) + 1) ∧ Hid (Below w.heap.size w wr ∧ Blk wr w.heap.size #[.int .i64 x.id, .int .i64 x.epoch, .bool true, .int .i64 x.granted, .slice a1 n1 c1, .slice a2 n2 c2, .int .i64 x.next] 25 ∧ wr.ownsRow (w.heap.size + 1) 3 1 v (waitTo x.taken k).length ((waitTo x.taken k).map (Value.int .i64)))) (fun _ i _ => m + 1 - (intOf i).toNat)
  case atStart => exact ⟨0, by omega, by simp, HB1.out.1, HB1.out.2.1, HB1.out.2.2⟩
  case round =>
    obtain ⟨k, hk, rfl, HR⟩ := hrel
    have q3 := HR.out.2.1.cell 3
    have q4 := HR.out.2.1.cell 4
    have q5 := HR.out.2.1.cell 5
    simp only [aT, aS, aZ] at q3 q4 q5
    by_cases hlt : k < m
    · have hA : (k : Int) + 1 ≤ (n1 : Int) := by omega
      have hB : (k : Int) + 1 ≤ x.granted := by have := HM.out; omega
      go_wp2_with fail
      refine (hasSpec_any a2 n2 c2 x.taken ((k : Int) + 1) G _ (HP.out.below HR.out.1) (by omega)).mono ?_
      rintro e w2 ⟨rfl, hq⟩
      have hb2 := quiet_below hq
      have HR2 : Hid (Below w.heap.size w w2 ∧ Blk w2 w.heap.size #[.int .i64 x.id, .int .i64 x.epoch, .bool true, .int .i64 x.granted, .slice a1 n1 c1, .slice a2 n2 c2, .int .i64 x.next] 25 ∧ w2.ownsRow (w.heap.size + 1) 3 1 u3 (waitTo x.taken k).length ((waitTo x.taken k).map (Value.int .i64))) := ⟨Below.next HR.out.1 hb2, HR.out.2.1.below hb2, ownsRow_below HR.out.2.2 hb2⟩
      obtain ⟨d, hd⟩ : ∃ d, d = x.taken.has ((k : Int) + 1) := ⟨_, rfl⟩
      rw [← hd]
      have HD : Hid (d = x.taken.has ((k : Int) + 1)) := hd
      clear hq hb2 hd HR q3 q4 q5
      cases d
      · have HN : Hid (waitTo x.taken (k + 1) = waitTo x.taken k ++ [(k : Int) + 1]) := by show _ = _; rw [waitTo, ← HD.out]; rfl
        have hwl := waitTo_len x.taken k
        go_wp2_with (first | go_skip | (with_reducible refine stopAppend rfl ?_))
        have bl : Below w2.heap.size w2 (w2.alloc (.cells #[.int .i64 ((k : Int) + 1)] 3)) := (Below.refl _ _).alloc (Nat.le_refl _) _
        have HR3 : Hid (Below w.heap.size w (w2.alloc (.cells #[.int .i64 ((k : Int) + 1)] 3)) ∧ Blk (w2.alloc (.cells #[.int .i64 ((k : Int) + 1)] 3)) w.heap.size #[.int .i64 x.id, .int .i64 x.epoch, .bool true, .int .i64 x.granted, .slice a1 n1 c1, .slice a2 n2 c2, .int .i64 x.next] 25 ∧ (w2.alloc (.cells #[.int .i64 ((k : Int) + 1)] 3)).ownsRow (w.heap.size + 1) 3 1 u3 (waitTo x.taken k).length ((waitTo x.taken k).map (Value.int .i64))) := ⟨Below.next HR2.out.1 bl, HR2.out.2.1.below bl, ownsRow_below HR2.out.2.2 bl⟩
        refine Stop.intro (wpList_append_own _ rfl _ _ 35 rfl (w.heap.size + 1) 3 i0 (.int .i64 0) 1 8 Try.underlying35 hi hz0 hz1 hz2 rfl (by decide) _ _ _ rfl HR3.out.2.2 ⟨w2.heap.size, 0, none⟩ 1 1 [.int .i64 ((k : Int) + 1)] rfl rfl (cell_one7 _ _ _) (by intro u hu; simp at hu; rw [hu]; rfl) (by unfold maxLen; omega) (by omega) (by have := HR3.out.2.1.lt; omega) ?_)
        intro v4 w4 hown hgrow _
        have ob : ∀ j, u3.ownBlock = some j → w.heap.size + 1 ≤ j := fun j hj => (HR3.out.2.2.lt j hj).1
        have HR4 : Hid (Below w.heap.size w w4 ∧ Blk w4 w.heap.size #[.int .i64 x.id, .int .i64 x.epoch, .bool true, .int .i64 x.granted, .slice a1 n1 c1, .slice a2 n2 c2, .int .i64 x.next] 25 ∧ w4.ownsRow (w.heap.size + 1) 3 1 v4 (waitTo x.taken (k + 1)).length ((waitTo x.taken (k + 1)).map (Value.int .i64))) := by
          refine ⟨HR3.out.1.grown hgrow HR3.out.1.size (fun g hg => by have := ob g hg; omega), HR3.out.2.1.agree (hgrow.block _ HR3.out.2.1.lt (fun e => by have := ob _ e.symm; omega)), ?_⟩
          rw [HN.out, List.length_append, List.map_append]
          exact hown
        clear hown hgrow ob bl HR3 HR2
        go_wp2
        go_roundw
        case rel => exact ⟨k + 1, by omega, by go_num, HR4.out⟩
        case measure => simp [intOf]; omega
      · have HN : Hid (waitTo x.taken (k + 1) = waitTo x.taken k) := by show _ = _; rw [waitTo, ← HD.out]; simp
        go_wp2
        go_roundw
        case rel => exact ⟨k + 1, by omega, by go_num, by rw [HN.out]; exact HR2.out⟩
        case measure => simp [intOf]; omega
    · obtain rfl : k = m := by omega
      have HEnd : Hid (wr.ownsRow w.heap.size 3 1 u3 x.waits.length (x.waits.map (Value.int .i64)) ∧ Below w.heap.size w wr) := by
        rw [HV.out]
        exact ⟨own_mono8 HR.out.2.2 (by omega), HR.out.1⟩
      by_cases hA : (k : Int) + 1 ≤ (n1 : Int)
      · have hB : ¬ (k : Int) + 1 ≤ x.granted := by have := HM.out; omega
        have hBd : decide ((k : Int) + 1 ≤ x.granted) = false := dec_false hB
        go_wp2
        go_ret
        exact ⟨⟨_, rfl, HEnd.out.1⟩, HEnd.out.2⟩
      · have hAd : decide ((k : Int) + 1 ≤ (n1 : Int)) = false := dec_false hA
        go_wp2
        go_ret
        exact ⟨⟨_, rfl, HEnd.out.1⟩, HEnd.out.2⟩
end Go.Proofs.Ytjndcfamfminkar
/- The walks through the program's areInPlace, AgentOk, AgentNew, seqInTurn and Waiting. No statement of the seat is proved here. -/
namespace Go.Proofs.Ytjndcfamfminkar
open Go.RowKit
theorem infoItB8 : (Try.prog.info? 54).map (·.size) = some 11 := by kernel_rfl
set_option maxRecDepth 200000 in
set_option maxHeartbeats 2000000 in
theorem areInPlace_any (a : Option Addr) (len cap : Nat) (xs : List It) (F : List Nat) (w : World) (h : RdL itK w a len xs F) (hw : ∀ y ∈ xs, y.sk.wide) (hlen : len ≤ 2097152) :
    Calls Try.prog 79 #[.slice a len cap] w fun e w' => e = .returned (.bool (itsOk xs)) ∧ Below w.heap.size w w' := by
  have HL : Hid (RdL itK w a len xs F ∧ (∀ y ∈ xs, y.sk.wide) ∧ xs.length = len) := ⟨h, hw, h.length⟩
  clear h hw
  go_enter Try.func79, Try.ntmps79
  go_wp2
  go_loopw [7] (fun i wr => ∃ (k : Nat), k ≤ len ∧ i = .int .i64 k ∧ Hid (Below w.heap.size w wr ∧ ∀ j y, j < k → xs[j]? = some y → y.ok = true ∧ y.seq = (j : Int) + 1)) (fun i _ => len - (intOf i).toNat)
  case atStart => exact ⟨0, by omega, rfl, Below.refl _ _, fun j y hj => by omega⟩
  case round =>
    obtain ⟨k, hk, rfl, HR⟩ := hrel
    by_cases hlt : k < len
    · have hI : (k : Int) < (len : Int) := by omega
      obtain ⟨b, off, ha, hbF, cs, Fi, hcs, hcc, hr, _⟩ := HL.out.1.get k hlt
      have ha' := ha.symm
      subst ha'
      have hbw : b < w.heap.size := HL.out.1.lt b hbF
      obtain ⟨y, hy⟩ : ∃ y, xs[k]? = some y := ⟨_, List.getElem?_eq_getElem (by rw [HL.out.2.2]; exact hlt)⟩
      have HY : Hid (xs[k]? = some y ∧ y.sk.wide ∧ cs.size = 11 ∧ RdIt w (.agg cs) y Fi ∧ cs.all (·.oneCell') = true) := ⟨hy, HL.out.2.1 y (List.mem_of_getElem? hy), hcs, hr y hy, by
        obtain ⟨a1, n1, c1, a2, n2, c2, a3, n3, c3, e⟩ := (hr y hy).cells11
        injection e with e
        rw [e]
        simp [Value.oneCell']⟩
      have HC : Hid (∀ j, j < 11 → wr.cell? ⟨b, off + k * 11 + j, none⟩ = cs[j]?) := fun j hj => by
        have q : wr.cell? ⟨b, off + k * 11 + j, none⟩ = w.cell? ⟨b, off + k * 11 + j, none⟩ := HR.out.1.cell (p := ⟨b, off + k * 11 + j, none⟩) hbw
        exact q.trans (hcc j hj)
      clear ha hbF hcs hcc hr hy
      go_wp2_with (first | go_skip | (with_reducible refine stopLoad 54 rfl ?_))
      refine load_at 54 b (off + k * 11) 11 cs _ HC.out HY.out.2.2.1 rfl rfl rfl Try.underlying54 rfl infoItB8 ?_
      go_wp2_with (first | go_skip | (with_reducible refine stopStore 54 rfl ?_))
      refine store_fresh 54 wr.heap.size rfl #[.int .i64 0, .int .i64 0, .int .i64 0, .int .i64 0, .int .i64 0, .int .i64 0, .int .i64 0, .int .i64 0, .slice none 0 0, .slice none 0 0, .slice none 0 0] cs 54 rfl rfl rfl rfl (by rw [HY.out.2.2.1]; exact infoItB8) (by rw [HY.out.2.2.1]; rfl) HY.out.2.2.2.2 ?_
      intro w2 hg2 hb2
      have HR2 : Hid (Below w.heap.size w w2 ∧ Blk w2 wr.heap.size cs 54) := ⟨Below.next HR.out.1 hb2, hg2⟩
      obtain ⟨X, hX⟩ : ∃ X, X = wr.heap.size := ⟨_, rfl⟩
      rw [← hX] at HR2 ⊢
      have HN : Hid (∀ j y, j < k → xs[j]? = some y → y.ok = true ∧ y.seq = (j : Int) + 1) := HR.out.2
      clear hg2 hb2 HR HC hX
      have cq : w2.cell? ⟨X, 0, none⟩ = some (.int .i64 y.seq) := by
        rw [HR2.out.2.cell 0]
        exact RdIt.first HY.out.2.2.2.1
      by_cases hq : y.seq = (k : Int) + 1
      · have hqb : (y.seq != (k : Int) + 1) = false := by simpa using hq
        have HQ : Hid (y.seq = (k : Int) + 1) := hq
        clear hq
        go_wp2_with (first | go_skip | (with_reducible refine stopLoad 54 rfl ?_))
        refine load_knownw8 54 X cs 54 _ HR2.out.2 rfl rfl rfl Try.underlying54 rfl (by rw [HY.out.2.2.1]; exact infoItB8) ?_
        go_wp2_with fail
        refine (itemOkImpl_any _ y Fi _ (HY.out.2.2.2.1.below HR2.out.1) HY.out.2.1).mono ?_
        rintro e w4 ⟨rfl, hb4⟩
        have HR4 : Hid (Below w.heap.size w w4) := Below.next HR2.out.1 hb4
        obtain ⟨d, hd⟩ : ∃ d, d = y.ok := ⟨_, rfl⟩
        rw [← hd]
        have HD : Hid (d = y.ok) := hd
        clear hd hb4 cq
        cases d
        · have HV : Hid (itsOk xs = false) := itsOk_not HY.out.1 (.inl HD.out.symm)
          go_wp2
          go_ret
          exact ⟨ret_bool HV.out.symm, HR4.out⟩
        have HN2 : Hid (∀ j z, j < k + 1 → xs[j]? = some z → z.ok = true ∧ z.seq = (j : Int) + 1) := fun j z hj hz => by
          by_cases e : j = k
          · subst e
            rw [HY.out.1] at hz
            cases hz
            exact ⟨HD.out.symm, HQ.out⟩
          · exact HN.out j z (by omega) hz
        clear HN
        go_wp2
        go_roundw
        case rel => exact ⟨k + 1, by omega, by go_num, HR4.out, HN2.out⟩
        case measure => simp [intOf]; omega
      · have hqb : (y.seq != (k : Int) + 1) = true := by simpa using hq
        have HV : Hid (itsOk xs = false) := itsOk_not HY.out.1 (.inr hq)
        clear hq
        go_wp2
        go_ret
        exact ⟨ret_bool HV.out.symm, HR2.out.1⟩
    · obtain rfl : k = len := by omega
      have HV : Hid (itsOk xs = true) := itsOk_all (fun j y hy => HR.out.2 j y (by have := (List.getElem?_eq_some_iff.1 hy).1; have := HL.out.2.2; omega) hy)
      have hI : ¬ (k : Int) < (k : Int) := by omega
      go_wp2
      go_ret
      exact ⟨ret_bool HV.out.symm, HR.out.1⟩
theorem itsOk_len {xs : List It} (h : itsOk xs = true) : xs.length ≤ 60 := by
  by_cases h0 : xs.length = 0
  · omega
  · have hk : xs.length - 1 < xs.length := by omega
    have q := itsOk_at h (List.getElem?_eq_getElem hk)
    have e := q.1
    unfold It.ok at e
    simp only [Bool.and_eq_true, decide_eq_true_eq] at e
    have := q.2
    omega
theorem Ag.ok_prog (x : Ag) : x.ok = (decide (0 ≤ x.id ∧ x.id ≤ 2) && decide (0 ≤ x.epoch ∧ x.epoch ≤ 1000) && decide (0 ≤ x.granted ∧ x.granted ≤ 60) && decide (0 ≤ x.next ∧ x.next ≤ 60) && (x.live || decide (x.granted ≤ 0)) && (itsOk x.sealed && (x.taken.ok && x.taken.under x.sealed.length))) := by
  unfold Ag.ok
  cases h : itsOk x.sealed
  · simp
  · rw [decide_eq_true (itsOk_len h)]
    generalize decide (0 ≤ x.id ∧ x.id ≤ 2) = p1
    generalize decide (0 ≤ x.epoch ∧ x.epoch ≤ 1000) = p2
    generalize decide (0 ≤ x.granted ∧ x.granted ≤ 60) = p3
    generalize decide (0 ≤ x.next ∧ x.next ≤ 60) = p4
    generalize (x.live || decide (x.granted ≤ 0)) = p5
    generalize (x.taken.ok && x.taken.under x.sealed.length) = p6
    revert p1 p2 p3 p4 p5 p6
    decide
theorem infoAgB8 : (Try.prog.info? 25).map (·.size) = some 7 := by kernel_rfl
set_option maxRecDepth 200000 in
set_option maxHeartbeats 4000000 in
theorem agentOkImpl_any (v : Value) (x : Ag) (F G : List Nat) (w : World) (h : RdAg w v x F G) (hw : ∀ y ∈ x.sealed, y.sk.wide) (hs : x.sealed.length ≤ 2097152) (hl : x.taken.length ≤ 2097152) :
    Calls Try.prog 36 #[v] w fun e w' => e = .returned (.bool x.ok) ∧ Below w.heap.size w w' := by
  obtain ⟨a1, n1, c1, a2, n2, c2, rfl, hL, hP, _, _⟩ := h
  have HL : Hid (RdL itK w a1 n1 x.sealed F ∧ (∀ y ∈ x.sealed, y.sk.wide) ∧ x.sealed.length = n1) := ⟨hL, hw, hL.length⟩
  have HP : Hid (RdP w a2 n2 x.taken G ∧ n2 ≤ 2097152) := ⟨hP, by rw [← hP.length]; exact hl⟩
  have hn1 : n1 ≤ 2097152 := by rw [← hL.length]; exact hs
  have HOK : Hid (x.ok = (decide (0 ≤ x.id ∧ x.id ≤ 2) && decide (0 ≤ x.epoch ∧ x.epoch ≤ 1000) && decide (0 ≤ x.granted ∧ x.granted ≤ 60) && decide (0 ≤ x.next ∧ x.next ≤ 60) && (x.live || decide (x.granted ≤ 0)) && (itsOk x.sealed && (x.taken.ok && x.taken.under n1)))) := by
    show _ = _
    rw [← hL.length]
    exact x.ok_prog
  obtain ⟨lx, hlx⟩ : ∃ b, b = x.live := ⟨_, rfl⟩
  rw [← hlx] at HOK ⊢
  have HB : Hid (Below w.heap.size w (w.alloc (.cells #[.int .i64 x.id, .int .i64 x.epoch, .bool lx, .int .i64 x.granted, .slice a1 n1 c1, .slice a2 n2 c2, .int .i64 x.next] 25)) ∧ Blk (w.alloc (.cells #[.int .i64 x.id, .int .i64 x.epoch, .bool lx, .int .i64 x.granted, .slice a1 n1 c1, .slice a2 n2 c2, .int .i64 x.next] 25)) w.heap.size #[.int .i64 x.id, .int .i64 x.epoch, .bool lx, .int .i64 x.granted, .slice a1 n1 c1, .slice a2 n2 c2, .int .i64 x.next] 25) := ⟨Below.allocW _ (Below.refl _ _) (Nat.le_refl _), Blk.made _ _ _⟩
  clear hL hP hw hs hl hlx
  go_enter Try.func36, Try.ntmps36
  go_wp2_with fail
  refine (inRange_any _ _ _).mono ?_
  rintro e w2 ⟨rfl, hw2⟩
  have hw2' := hw2.symm
  subst hw2'
  clear hw2
  obtain ⟨d1, hd1⟩ : ∃ d, d = decide (0 ≤ x.id ∧ x.id ≤ 2) := ⟨_, rfl⟩
  rw [← hd1]
  rw [← hd1] at HOK
  clear hd1
  cases d1
  · have HV : Hid (x.ok = false) := by show _ = _; rw [HOK.out]; rfl
    go_wp2
    go_ret
    exact ⟨ret_bool HV.out.symm, HB.out.1⟩
  go_wp2_with fail
  refine (inRange_any _ _ _).mono ?_
  rintro e w2 ⟨rfl, hw2⟩
  have hw2' := hw2.symm
  subst hw2'
  clear hw2
  obtain ⟨d2, hd2⟩ : ∃ d, d = decide (0 ≤ x.epoch ∧ x.epoch ≤ 1000) := ⟨_, rfl⟩
  rw [← hd2]
  rw [← hd2] at HOK
  clear hd2
  cases d2
  · have HV : Hid (x.ok = false) := by show _ = _; rw [HOK.out]; rfl
    go_wp2
    go_ret
    exact ⟨ret_bool HV.out.symm, HB.out.1⟩
  go_wp2_with fail
  refine (inRange_any _ _ _).mono ?_
  rintro e w2 ⟨rfl, hw2⟩
  have hw2' := hw2.symm
  subst hw2'
  clear hw2
  obtain ⟨d3, hd3⟩ : ∃ d, d = decide (0 ≤ x.granted ∧ x.granted ≤ 60) := ⟨_, rfl⟩
  rw [← hd3]
  rw [← hd3] at HOK
  clear hd3
  cases d3
  · have HV : Hid (x.ok = false) := by show _ = _; rw [HOK.out]; rfl
    go_wp2
    go_ret
    exact ⟨ret_bool HV.out.symm, HB.out.1⟩
  go_wp2_with fail
  refine (inRange_any _ _ _).mono ?_
  rintro e w2 ⟨rfl, hw2⟩
  have hw2' := hw2.symm
  subst hw2'
  clear hw2
  obtain ⟨d4, hd4⟩ : ∃ d, d = decide (0 ≤ x.next ∧ x.next ≤ 60) := ⟨_, rfl⟩
  rw [← hd4]
  rw [← hd4] at HOK
  clear hd4
  cases d4
  · have HV : Hid (x.ok = false) := by show _ = _; rw [HOK.out]; rfl
    go_wp2
    go_ret
    exact ⟨ret_bool HV.out.symm, HB.out.1⟩
  have HLIVE : Hid ((lx || decide (x.granted ≤ 0)) = true → x.ok = (itsOk x.sealed && (x.taken.ok && x.taken.under n1))) := fun e => by rw [HOK.out, e]; rfl
  have HDEAD : Hid ((lx || decide (x.granted ≤ 0)) = false → x.ok = false) := fun e => by rw [HOK.out, e]; rfl
  clear HOK
  cases lx
  · by_cases hg : 0 < x.granted
    · have hgd : decide (0 < x.granted) = true := dec_true hg
      have HV : Hid (x.ok = false) := HDEAD.out (by rw [decide_eq_false (by omega : ¬ x.granted ≤ 0)]; rfl)
      go_wp2
      go_ret
      exact ⟨ret_bool HV.out.symm, HB.out.1⟩
    have hgd : decide (0 < x.granted) = false := dec_false hg
    have HOKF : Hid (x.ok = (itsOk x.sealed && (x.taken.ok && x.taken.under n1))) := HLIVE.out (by rw [decide_eq_true (by omega : x.granted ≤ 0)]; rfl)
    clear HLIVE HDEAD
    go_wp2_with fail
    refine (areInPlace_any a1 n1 c1 x.sealed F _ (HL.out.1.below HB.out.1) HL.out.2.1 hn1).mono ?_
    rintro e w3 ⟨rfl, hb3⟩
    have HB3 : Hid (Below w.heap.size w w3 ∧ Blk w3 w.heap.size #[.int .i64 x.id, .int .i64 x.epoch, .bool false, .int .i64 x.granted, .slice a1 n1 c1, .slice a2 n2 c2, .int .i64 x.next] 25) := ⟨Below.next HB.out.1 hb3, HB.out.2.below hb3⟩
    have c4' := HB3.out.2.cell 4
    have c5' := HB3.out.2.cell 5
    simp only [aT, aS, aZ] at c4' c5'
    obtain ⟨d5, hd5⟩ : ∃ d, d = itsOk x.sealed := ⟨_, rfl⟩
    rw [← hd5]
    rw [← hd5] at HOKF
    clear hd5 hb3 HB
    cases d5
    · have HV : Hid (x.ok = false) := by show _ = _; rw [HOKF.out]; rfl
      go_wp2
      go_ret
      exact ⟨ret_bool HV.out.symm, HB3.out.1⟩
    go_wp2_with fail
    refine (areSeqs_any a2 n2 c2 n1 x.taken G _ (HP.out.1.below HB3.out.1) HP.out.2).mono ?_
    rintro e w4 ⟨rfl, hb4⟩
    have HB4 : Hid (Below w.heap.size w w4) := Below.next HB3.out.1 hb4
    obtain ⟨d6, hd6⟩ : ∃ d, d = (x.taken.ok && x.taken.under n1) := ⟨_, rfl⟩
    rw [← hd6]
    rw [← hd6] at HOKF
    have HV : Hid (x.ok = d6) := by show _ = _; rw [HOKF.out]; rfl
    clear hd6 hb4 c4' c5'
    go_wp2
    go_ret
    exact ⟨ret_bool HV.out.symm, HB4.out⟩
  · have HOKF : Hid (x.ok = (itsOk x.sealed && (x.taken.ok && x.taken.under n1))) := HLIVE.out rfl
    clear HLIVE HDEAD
    go_wp2_with fail
    refine (areInPlace_any a1 n1 c1 x.sealed F _ (HL.out.1.below HB.out.1) HL.out.2.1 hn1).mono ?_
    rintro e w3 ⟨rfl, hb3⟩
    have HB3 : Hid (Below w.heap.size w w3 ∧ Blk w3 w.heap.size #[.int .i64 x.id, .int .i64 x.epoch, .bool true, .int .i64 x.granted, .slice a1 n1 c1, .slice a2 n2 c2, .int .i64 x.next] 25) := ⟨Below.next HB.out.1 hb3, HB.out.2.below hb3⟩
    have c4' := HB3.out.2.cell 4
    have c5' := HB3.out.2.cell 5
    simp only [aT, aS, aZ] at c4' c5'
    obtain ⟨d5, hd5⟩ : ∃ d, d = itsOk x.sealed := ⟨_, rfl⟩
    rw [← hd5]
    rw [← hd5] at HOKF
    clear hd5 hb3 HB
    cases d5
    · have HV : Hid (x.ok = false) := by show _ = _; rw [HOKF.out]; rfl
      go_wp2
      go_ret
      exact ⟨ret_bool HV.out.symm, HB3.out.1⟩
    go_wp2_with fail
    refine (areSeqs_any a2 n2 c2 n1 x.taken G _ (HP.out.1.below HB3.out.1) HP.out.2).mono ?_
    rintro e w4 ⟨rfl, hb4⟩
    have HB4 : Hid (Below w.heap.size w w4) := Below.next HB3.out.1 hb4
    obtain ⟨d6, hd6⟩ : ∃ d, d = (x.taken.ok && x.taken.under n1) := ⟨_, rfl⟩
    rw [← hd6]
    rw [← hd6] at HOKF
    have HV : Hid (x.ok = d6) := by show _ = _; rw [HOKF.out]; rfl
    clear hd6 hb4 c4' c5'
    go_wp2
    go_ret
    exact ⟨ret_bool HV.out.symm, HB4.out⟩
theorem Ag.ok_granted {x : Ag} (h : x.ok = true) : 0 ≤ x.granted ∧ x.granted ≤ 60 ∧ x.sealed.length ≤ 60 ∧ itsOk x.sealed = true ∧ (x.live = false → x.granted = 0) := by
  unfold Ag.ok at h
  simp only [Bool.and_eq_true, decide_eq_true_eq, Bool.or_eq_true] at h
  obtain ⟨⟨⟨⟨⟨⟨⟨_, _⟩, h3⟩, h4⟩, _⟩, _⟩, h7⟩, h8⟩ := h
  refine ⟨h3.1, h3.2, h4, h8, fun e => ?_⟩
  rcases h7 with q | q
  · rw [e] at q; cases q
  · omega
set_option maxRecDepth 200000 in
set_option maxHeartbeats 4000000 in
theorem waitingImpl_any (v : Value) (x : Ag) (F G : List Nat) (w : World) (h : RdAg w v x F G) (hw : ∀ y ∈ x.sealed, y.sk.wide) (hs : x.sealed.length ≤ 1048576) (hl : x.taken.length ≤ 1048576) :
    Calls Try.prog 22 #[v] w fun e w' => (∃ u, e = .returned u ∧ w'.ownsRow w.heap.size 3 1 u x.waits.length (x.waits.map (Value.int .i64))) ∧ Below w.heap.size w w' := by
  obtain ⟨i0, hi, hz0, hz1, hz2⟩ := info_parts infoInt
  obtain ⟨a1, n1, c1, a2, n2, c2, rfl, hL, hP, hc1, hc2⟩ := h
  have HX : Hid (RdAg w (.agg #[.int .i64 x.id, .int .i64 x.epoch, .bool x.live, .int .i64 x.granted, .slice a1 n1 c1, .slice a2 n2 c2, .int .i64 x.next]) x F G ∧ x.sealed.length = n1) := ⟨⟨a1, n1, c1, a2, n2, c2, rfl, hL, hP, hc1, hc2⟩, hL.length⟩
  have HW : Hid (∀ y ∈ x.sealed, y.sk.wide) := hw
  have HL : Hid (RdL itK w a1 n1 x.sealed F) := hL
  have HP : Hid (RdP w a2 n2 x.taken G) := hP
  have hn1 : n1 ≤ 1048576 := by rw [← hL.length]; exact hs
  have hn2 : n2 ≤ 1048576 := by rw [← hP.length]; exact hl
  have hcap : n1 ≤ c1 := hc1.2
  have hnil : a1 = none → c1 = 0 := hc1.1
  have HB : Hid (Below w.heap.size w (w.alloc (.cells #[.int .i64 x.id, .int .i64 x.epoch, .bool x.live, .int .i64 x.granted, .slice a1 n1 c1, .slice a2 n2 c2, .int .i64 x.next] 25)) ∧ Blk (w.alloc (.cells #[.int .i64 x.id, .int .i64 x.epoch, .bool x.live, .int .i64 x.granted, .slice a1 n1 c1, .slice a2 n2 c2, .int .i64 x.next] 25)) w.heap.size #[.int .i64 x.id, .int .i64 x.epoch, .bool x.live, .int .i64 x.granted, .slice a1 n1 c1, .slice a2 n2 c2, .int .i64 x.next] 25) := ⟨Below.allocW _ (Below.refl _ _) (Nat.le_refl _), Blk.made _ _ _⟩
  clear hL hP hw hl hc1 hc2
  go_enter Try.func22, Try.ntmps22
  go_wp2_with (first | go_skip | (with_reducible refine stopLoad 25 rfl ?_))
  obtain ⟨W0, hW0⟩ : ∃ W, W = w.alloc (.cells #[.int .i64 x.id, .int .i64 x.epoch, .bool x.live, .int .i64 x.granted, .slice a1 n1 c1, .slice a2 n2 c2, .int .i64 x.next] 25) := ⟨_, rfl⟩
  rw [← hW0] at HB ⊢
  clear hW0
  refine load_known 25 w.heap.size _ 25 _ HB.out.2 rfl rfl rfl Try.underlying25 rfl infoAgB8 ?_
  go_wp2_with fail
  refine (agentOkImpl_any _ x F G _ (HX.out.1.below HB.out.1) HW.out (by omega) (by have := HP.out.length; omega)).mono ?_
  rintro e w1 ⟨rfl, hb1⟩
  have HB1 : Hid (Below w.heap.size w w1 ∧ Blk w1 w.heap.size #[.int .i64 x.id, .int .i64 x.epoch, .bool x.live, .int .i64 x.granted, .slice a1 n1 c1, .slice a2 n2 c2, .int .i64 x.next] 25) := ⟨Below.next HB.out.1 hb1, HB.out.2.below hb1⟩
  obtain ⟨d, hd⟩ : ∃ d, d = x.ok := ⟨_, rfl⟩
  rw [← hd]
  have HD : Hid (d = x.ok) := hd
  clear hb1 hd HB
  cases d
  · have HV : Hid (x.waits = []) := by show _ = _; unfold Ag.waits; rw [← HD.out]; rfl
    go_wp2
    go_ret
    rw [HV.out]
    exact ⟨⟨_, rfl, World.ownsRow_nil _ _ _ _⟩, HB1.out.1⟩
  have HG := Ag.ok_granted HD.out.symm
  have HI : Hid (itsOk x.sealed = true) := HG.2.2.2.1
  obtain ⟨m, hm⟩ : ∃ m : Nat, m = x.upTo := ⟨_, rfl⟩
  have HM : Hid (m = min n1 x.granted.toNat) := by show _ = _; rw [hm]; unfold Ag.upTo; rw [HX.out.2]
  have HV : Hid (x.waits = waitTo x.taken m) := by
    show _ = _
    unfold Ag.waits
    rw [hm]
    cases q : x.live
    · have e0 : x.upTo = 0 := by unfold Ag.upTo; rw [HG.2.2.2.2 q]; simp
      rw [e0]; simp [waitTo]
    · rw [if_pos ⟨HD.out.symm, rfl⟩]
  have hmn : m ≤ n1 := by rw [HM.out]; exact Nat.min_le_left _ _
  have hmin : (if x.granted < (n1 : Int) then x.granted else (n1 : Int)) = (m : Int) := by
    have := HM.out; have := HG.1
    split <;> omega
  have hmin2 : (if (n1 : Int) < x.granted then (n1 : Int) else x.granted) = (m : Int) := by
    have := HM.out; have := HG.1
    split <;> omega
  have hg0 : 0 ≤ x.granted := HG.1
  have hg6 : x.granted ≤ 60 := HG.2.1
  clear hm HG HD
  have q3 := HB1.out.2.cell 3
  have q4 := HB1.out.2.cell 4
  simp only [aT, aS, aZ] at q3 q4
  go_wp2_with fail
  clear q3 q4
  go_loopw [3, 19] (fun v i wr => ∃ (k : Nat), k ≤ m ∧ i = .int .i64 k ∧ Hid (Below w.heap.size w wr ∧ Blk wr w.heap.size #[.int .i64 x.id, .int .i64 x.epoch, .bool x.live, .int .i64 x.granted, .slice a1 n1 c1, .slice a2 n2 c2, .int .i64 x.next] 25 ∧ wr.ownsRow (w.heap.size + 1) 3 1 v (waitTo x.taken k).length ((waitTo x.taken k).map (Value.int .i64)))) (fun _ i _ => m - (intOf i).toNat)
  case atStart => exact ⟨0, by omega, rfl, HB1.out.1, HB1.out.2, World.ownsRow_nil _ _ _ _⟩
  case round =>
    clear HB1
    obtain ⟨k, hk, rfl, HR⟩ := hrel
    by_cases hlt : k < m
    · have hI : (k : Int) < (m : Int) := by omega
      obtain ⟨b, off, ha, hbF, cs, Fi, hcs, hcc, hr, _⟩ := HL.out.get k (by omega)
      have ha' := ha.symm
      subst ha'
      have hbw : b < w.heap.size := HL.out.lt b hbF
      obtain ⟨y, hy⟩ : ∃ y, x.sealed[k]? = some y := ⟨_, List.getElem?_eq_getElem (by rw [HX.out.2]; omega)⟩
      have HY : Hid (y.seq = (k : Int) + 1 ∧ cs.size = 11 ∧ cs[0]? = some (.int .i64 y.seq) ∧ cs.all (·.oneCell') = true) := ⟨(itsOk_at HI.out hy).2, hcs, RdIt.first (hr y hy), by
        obtain ⟨a1, n1, c1, a2, n2, c2, a3, n3, c3, e⟩ := (hr y hy).cells11
        injection e with e
        rw [e]
        simp [Value.oneCell']⟩
      have HC : Hid (∀ j, j < 11 → wr.cell? ⟨b, off + k * 11 + j, none⟩ = cs[j]?) := fun j hj => by
        have q : wr.cell? ⟨b, off + k * 11 + j, none⟩ = w.cell? ⟨b, off + k * 11 + j, none⟩ := HR.out.1.cell (p := ⟨b, off + k * 11 + j, none⟩) hbw
        exact q.trans (hcc j hj)
      clear ha hbF hcs hcc hr hy
      go_wp2_with (first | go_skip | (with_reducible refine stopLoad 54 rfl ?_))
      refine load_at 54 b (off + k * 11) 11 cs _ HC.out HY.out.2.1 rfl rfl rfl Try.underlying54 rfl infoItB8 ?_
      go_wp2_with (first | go_skip | (with_reducible refine stopStore 54 rfl ?_))
      refine store_fresh 54 wr.heap.size rfl #[.int .i64 0, .int .i64 0, .int .i64 0, .int .i64 0, .int .i64 0, .int .i64 0, .int .i64 0, .int .i64 0, .slice none 0 0, .slice none 0 0, .slice none 0 0] cs 54 rfl rfl rfl rfl (by rw [HY.out.2.1]; exact infoItB8) (by rw [HY.out.2.1]; rfl) HY.out.2.2.2 ?_
      intro w2 hg2 hb2
      have HR2 : Hid (Below w.heap.size w w2 ∧ Blk w2 w.heap.size #[.int .i64 x.id, .int .i64 x.epoch, .bool x.live, .int .i64 x.granted, .slice (some ⟨b, off, none⟩) n1 c1, .slice a2 n2 c2, .int .i64 x.next] 25 ∧ w2.ownsRow (w.heap.size + 1) 3 1 u3 (waitTo x.taken k).length ((waitTo x.taken k).map (Value.int .i64)) ∧ Blk w2 wr.heap.size cs 54) := ⟨Below.next HR.out.1 hb2, HR.out.2.1.below hb2, ownsRow_below HR.out.2.2 hb2, hg2⟩
      obtain ⟨X, hX⟩ : ∃ X, X = wr.heap.size := ⟨_, rfl⟩
      rw [← hX] at HR2 ⊢
      have cq : w2.cell? ⟨X, 0, none⟩ = some (.int .i64 ((k : Int) + 1)) := by
        rw [HR2.out.2.2.2.cell 0, HY.out.2.2.1, HY.out.1]
      have q5 := HR2.out.2.1.cell 5
      simp only [aT, aS, aZ] at q5
      clear hg2 hb2 HR HC hX
      go_wp2_with fail
      refine (hasImpl_any a2 n2 c2 x.taken ((k : Int) + 1) G _ (HP.out.below HR2.out.1) (by omega)).mono ?_
      rintro e w3 ⟨rfl, hb3⟩
      have HR3 : Hid (Below w.heap.size w w3 ∧ Blk w3 w.heap.size #[.int .i64 x.id, .int .i64 x.epoch, .bool x.live, .int .i64 x.granted, .slice (some ⟨b, off, none⟩) n1 c1, .slice a2 n2 c2, .int .i64 x.next] 25 ∧ w3.ownsRow (w.heap.size + 1) 3 1 u3 (waitTo x.taken k).length ((waitTo x.taken k).map (Value.int .i64)) ∧ w3.cell? ⟨X, 0, none⟩ = some (.int .i64 ((k : Int) + 1))) := ⟨Below.next HR2.out.1 hb3, HR2.out.2.1.below hb3, ownsRow_below HR2.out.2.2.1 hb3, by rw [(HR2.out.2.2.2.below hb3).cell 0, HY.out.2.2.1, HY.out.1]⟩
      obtain ⟨d, hd⟩ : ∃ d, d = x.taken.has ((k : Int) + 1) := ⟨_, rfl⟩
      rw [← hd]
      have HD : Hid (d = x.taken.has ((k : Int) + 1)) := hd
      clear hb3 hd HR2 cq q5
      cases d
      · have HN : Hid (waitTo x.taken (k + 1) = waitTo x.taken k ++ [(k : Int) + 1]) := by show _ = _; rw [waitTo, ← HD.out]; rfl
        have hwl := waitTo_len x.taken k
        have cq := HR3.out.2.2.2
        go_wp2_with (first | go_skip | (with_reducible refine stopAppend rfl ?_))
        have bl : Below w3.heap.size w3 (w3.alloc (.cells #[.int .i64 ((k : Int) + 1)] 3)) := (Below.refl _ _).alloc (Nat.le_refl _) _
        have HR4 : Hid (Below w.heap.size w (w3.alloc (.cells #[.int .i64 ((k : Int) + 1)] 3)) ∧ Blk (w3.alloc (.cells #[.int .i64 ((k : Int) + 1)] 3)) w.heap.size #[.int .i64 x.id, .int .i64 x.epoch, .bool x.live, .int .i64 x.granted, .slice (some ⟨b, off, none⟩) n1 c1, .slice a2 n2 c2, .int .i64 x.next] 25 ∧ (w3.alloc (.cells #[.int .i64 ((k : Int) + 1)] 3)).ownsRow (w.heap.size + 1) 3 1 u3 (waitTo x.taken k).length ((waitTo x.taken k).map (Value.int .i64))) := ⟨Below.next HR3.out.1 bl, HR3.out.2.1.below bl, ownsRow_below HR3.out.2.2.1 bl⟩
        refine Stop.intro (wpList_append_own _ rfl _ _ 35 rfl (w.heap.size + 1) 3 i0 (.int .i64 0) 1 8 Try.underlying35 hi hz0 hz1 hz2 rfl (by decide) _ _ _ rfl HR4.out.2.2 ⟨w3.heap.size, 0, none⟩ 1 1 [.int .i64 ((k : Int) + 1)] rfl rfl (cell_one7 _ _ _) (by intro u hu; simp at hu; rw [hu]; rfl) (by unfold maxLen; omega) (by omega) (by have := HR4.out.2.1.lt; omega) ?_)
        intro v4 w4 hown hgrow _
        have ob : ∀ j, u3.ownBlock = some j → w.heap.size + 1 ≤ j := fun j hj => (HR4.out.2.2.lt j hj).1
        have HR5 : Hid (Below w.heap.size w w4 ∧ Blk w4 w.heap.size #[.int .i64 x.id, .int .i64 x.epoch, .bool x.live, .int .i64 x.granted, .slice (some ⟨b, off, none⟩) n1 c1, .slice a2 n2 c2, .int .i64 x.next] 25 ∧ w4.ownsRow (w.heap.size + 1) 3 1 v4 (waitTo x.taken (k + 1)).length ((waitTo x.taken (k + 1)).map (Value.int .i64))) := by
          refine ⟨HR4.out.1.grown hgrow HR4.out.1.size (fun g hg => by have := ob g hg; omega), HR4.out.2.1.agree (hgrow.block _ HR4.out.2.1.lt (fun e => by have := ob _ e.symm; omega)), ?_⟩
          rw [HN.out, List.length_append, List.map_append]
          exact hown
        clear hown hgrow ob bl HR4 HR3
        go_wp2
        go_roundw
        case rel => exact ⟨k + 1, by omega, by go_num, HR5.out⟩
        case measure => simp [intOf]; omega
      · have HN : Hid (waitTo x.taken (k + 1) = waitTo x.taken k) := by show _ = _; rw [waitTo, ← HD.out]; simp
        go_wp2
        go_roundw
        case rel => exact ⟨k + 1, by omega, by go_num, by rw [HN.out]; exact ⟨HR3.out.1, HR3.out.2.1, HR3.out.2.2.1⟩⟩
        case measure => simp [intOf]; omega
    · obtain rfl : k = m := by omega
      have HEnd : Hid (wr.ownsRow w.heap.size 3 1 u3 x.waits.length (x.waits.map (Value.int .i64)) ∧ Below w.heap.size w wr) := by
        rw [HV.out]
        exact ⟨own_mono8 HR.out.2.2 (by omega), HR.out.1⟩
      have hI : ¬ (k : Int) < (k : Int) := by omega
      go_wp2
      go_ret
      exact ⟨⟨_, rfl, HEnd.out.1⟩, HEnd.out.2⟩
end Go.Proofs.Ytjndcfamfminkar
/- The walk through the program's copying of a summary. No statement of the seat is proved here. -/
namespace Go.Proofs.Ytjndcfamfminkar
open Go.RowKit
/-- In the midst of a copying: k rows are done. -/
structure CpSt (w : World) (A B : Array Value) (s : Sk) (a1 a2 : Option Addr) (n1 n2 : Nat) (F1 F2 : List Nat) (lo k : Nat) (v : Value) (vs : List Value) (G : List Nat) (W : World) : Prop where
  box : Blk W w.heap.size A 44
  res : Blk W (w.heap.size + 1) B 44
  bel : Below w.heap.size w W
  r1 : RdI W a1 n1 s.hist F1
  r2 : RdI W a2 n2 s.regs F2
  own : Own (w.heap.size + 2) W (F1 ++ F2)
  lt : ∀ b ∈ F1 ++ F2, b < lo
  row : W.ownsRow lo 35 1 v k vs
  rd : RdS W ((s.rows.take k).map ints) vs G
  og : Own lo W G
  ap : ∀ b, v.ownBlock = some b → b ∉ G
  big : w.heap.size + 2 ≤ lo
  lw : lo ≤ W.heap.size
section
variable {w W W' : World} {A B : Array Value} {s : Sk} {a1 a2 : Option Addr} {n1 n2 : Nat} {F1 F2 : List Nat} {lo k : Nat} {v : Value} {vs : List Value} {G : List Nat}
theorem CpSt.below (h : CpSt w A B s a1 a2 n1 n2 F1 F2 lo k v vs G W) (b : Below W.heap.size W W') : CpSt w A B s a1 a2 n1 n2 F1 F2 lo k v vs G W' :=
  ⟨h.box.below b, h.res.below b, Below.next h.bel b, h.r1.below b, h.r2.below b, h.own.below (fun x hx => (List.mem_append.1 hx).elim (h.r1.lt x) (h.r2.lt x)) b, h.lt, ownsRow_below h.row b, h.rd.below b, h.og.below h.rd.lt b, h.ap, h.big, Nat.le_trans h.lw b.size⟩
theorem CpSt.step (h : CpSt w A B s a1 a2 n1 n2 F1 F2 lo k v vs G W) {nk cp3 g4 cp4 L : Nat} {a' : Option Addr} {Fk : List Nat} (rk : RdI W a' nk (s.rows.getD k []) Fk) (ok : Own L W Fk) (ltG : ∀ b ∈ G, b < L) (ltv : ∀ b, v.ownBlock = some b → b < L) (hL : lo ≤ L)
    (hown : W'.ownsRow lo 35 1 (.slice (some ⟨g4, 0, none⟩) (k + 1) cp4) (k + 1) (vs ++ [.slice a' nk cp3])) (hgrow : W.grownBy W' v.ownBlock) (hat : v.ownBlock = some g4 ∨ g4 = W.heap.size) (hk : k < s.rows.length) :
    CpSt w A B s a1 a2 n1 n2 F1 F2 lo (k + 1) (.slice (some ⟨g4, 0, none⟩) (k + 1) cp4) (vs ++ [.slice a' nk cp3]) (G ++ Fk) W' := by
  have big := h.big
  have blk : ∀ b, b < W.heap.size → ¬ v.ownBlock = some b → W'.heap[b]? = W.heap[b]? := fun b hb hn => hgrow.block b hb (fun e => hn e.symm)
  have vge : ∀ b, v.ownBlock = some b → lo ≤ b := fun b hb => (h.row.lt b hb).1
  have bx := h.box.agree (blk _ h.box.lt (fun e => by have := vge _ e; omega))
  have rs := h.res.agree (blk _ h.res.lt (fun e => by have := vge _ e; omega))
  have bel : Below w.heap.size w W' := h.bel.grown hgrow h.bel.size (fun b hb => by have := vge b hb; omega)
  have agF : Agree W W' (F1 ++ F2) := fun b hb => blk b ((List.mem_append.1 hb).elim (h.r1.lt b) (h.r2.lt b)) (fun e => by have := vge _ e; have := h.lt b hb; omega)
  have agG : Agree W W' (G ++ Fk) := fun b hb => blk b ((List.mem_append.1 hb).elim (h.rd.lt b) (rk.lt b)) (fun e => (List.mem_append.1 hb).elim (h.ap b e) (fun hf => by have := ok.ge b hf; have := ltv b e; omega))
  refine ⟨bx, rs, bel, h.r1.agree agF.left, h.r2.agree agF.right, h.own.agree agF, h.lt, hown, ?_, ?_, ?_, h.big, ?_⟩
  · rw [take_snoc s.rows [] k hk, List.map_append]
    exact (h.rd.agree agG.left).snoc (rd_ints.2 ⟨_, _, _, rfl, rk.agree agG.right⟩)
  · exact (h.og.agree agG.left).join (ok.agree agG.right) ltG hL
  · intro b hb hx
    have hb' : b = g4 := by simpa [Value.ownBlock] using hb.symm
    subst hb'
    rcases hat with e | e
    · rcases List.mem_append.1 hx with hx | hx
      · exact h.ap _ e hx
      · have := ok.ge _ hx; have := ltv _ e; omega
    · rcases List.mem_append.1 hx with hx | hx
      · have := h.rd.lt _ hx; omega
      · have := rk.lt _ hx; omega
  · have := hgrow.size; have := h.lw; omega
theorem CpSt.rows (h : CpSt w A B s a1 a2 n1 n2 F1 F2 lo k v vs G W) : ∃ a c F, v = .slice a k c ∧ RdII W a k (s.rows.take k) F ∧ Own (w.heap.size + 2) W (F1 ++ (F2 ++ F)) := by
  have big := h.big
  rcases h.row.2 with ⟨e, e'⟩ | ⟨g, cap, cur, e, e2, e3, e4⟩
  · subst e'
    exact ⟨none, 0, [], e, ⟨by simp, .inl ⟨rfl, rfl⟩⟩, by simpa using h.own⟩
  · subst e
    have hl : vs.length = k := by simpa using h.row.1
    have hlen := h.rd.length
    by_cases h0 : k = 0
    · subst h0
      exact ⟨_, cap, [], rfl, ⟨by simp, .inl ⟨rfl, rfl⟩⟩, by simpa using h.own⟩
    · have hm : RdM W ((s.rows.take k).map ints) g 0 G := rdM_of_own 0 h.rd (fun i hi => by rw [Nat.zero_add]; exact h.row.cellAt i (by omega))
      have hg : lo ≤ g := (h.row.lt g rfl).1
      have hgG : g ∉ G := h.ap g rfl
      have og : Own lo W (g :: G) := ⟨List.nodup_cons.2 ⟨hgG, h.og.nodup⟩, fun b hb o => (List.mem_cons.1 hb).elim (fun e => by subst e; exact h.row.frozenAt o) (fun hb => h.og.free b hb o), fun b hb => (List.mem_cons.1 hb).elim (fun e => by omega) (h.og.ge b)⟩
      refine ⟨_, cap, g :: G, rfl, ⟨by rw [List.length_map] at hlen; omega, .inr ⟨g, 0, G, by omega, rfl, rfl, hm⟩⟩, ?_⟩
      rw [← List.append_assoc]
      exact h.own.join og h.lt h.big
end
end Go.Proofs.Ytjndcfamfminkar
/- The walk through the program's laying of spans behind a set that it makes. No statement of the seat is proved here. -/
namespace Go.Proofs.Ytjndcfamfminkar
open Go.RowKit
/-- The set that is made: what it holds, and that nothing else was written since w. -/
structure LayAt (w : World) (B : Nat) (v0 v : Value) (o : Sp) (W : World) : Prop where
  own : W.ownsRow B 107 2 v o.length ((flat o).map (Value.int .i64))
  grown : w.grownBy W v0.ownBlock
  fresh : v.ownBlock = v0.ownBlock ∨ ∀ g, v.ownBlock = some g → w.heap.size ≤ g
theorem LayAt.alloc {w W : World} {B : Nat} {v0 v : Value} {o : Sp} (h : LayAt w B v0 v o W) (ob : Obj) : LayAt w B v0 v o (W.alloc ob) :=
  ⟨h.own.alloc _, ⟨h.grown.os, h.grown.tape, h.grown.output, by have := h.grown.size; simp; omega, fun k hk hne => (Below.heap_alloc W ob k (by have := h.grown.size; omega)).trans (h.grown.block k hk hne)⟩, h.fresh⟩
theorem LayAt.drewN {w W : World} {B : Nat} {v0 v : Value} {o : Sp} (h : LayAt w B v0 v o W) (m : Nat) : LayAt w B v0 v o (W.drewN m) :=
  ⟨⟨h.own.1, h.own.2⟩, ⟨h.grown.os, h.grown.tape, h.grown.output, h.grown.size, h.grown.block⟩, h.fresh⟩
theorem LayAt.app {w W W6 : World} {B : Nat} {v0 v v' : Value} {o : Sp} {p q : Int} {ob : Obj} (h : LayAt w B v0 v o W) (hown : W6.ownsRow B 107 2 v' (o.length + 1) ((flat o).map (Value.int .i64) ++ [.int .i64 p, .int .i64 q])) (hgrow : (W.alloc ob).grownBy W6 v.ownBlock) (hob : v'.ownBlock = v.ownBlock ∨ v'.ownBlock = some (W.alloc ob).heap.size) : LayAt w B v0 v' (o ++ [(p, q)]) W6 := by
  have ha := h.alloc ob
  refine ⟨?_, ⟨hgrow.os.trans ha.grown.os, hgrow.tape.trans ha.grown.tape, hgrow.output.trans ha.grown.output, Nat.le_trans ha.grown.size hgrow.size, fun k hk hne => ?_⟩, ?_⟩
  · rw [flat_append, List.map_append, List.length_append]
    exact hown
  · refine (hgrow.block k (Nat.lt_of_lt_of_le hk ha.grown.size) (fun e => ?_)).trans (ha.grown.block k hk hne)
    rcases h.fresh with f | f
    · exact hne (e.trans f)
    · have := f k e.symm; omega
  · rcases hob with e | e
    · rw [e]; exact h.fresh
    · right
      intro g hg
      rw [e] at hg
      cases hg
      exact ha.grown.size
theorem LayAt.cells {w W : World} {B g n cap : Nat} {v0 : Value} {o : Sp} (h : LayAt w B v0 (.slice (some ⟨g, 0, none⟩) n cap) o W) {m : Nat} (hm : m < o.length) : W.cell? ⟨g, m * 2, none⟩ = some (.int .i64 (o.at m).1) ∧ W.cell? ⟨g, m * 2 + 1, none⟩ = some (.int .i64 (o.at m).2) ∧ ∀ j, W.frozen? ⟨g, j, none⟩ = false := by
  have hn : o.length = n := by
    rcases h.own.2 with ⟨e, _⟩ | ⟨g', cap', cur, e, _⟩
    · cases e
    · cases e; rfl
  have own := h.own
  rw [hn] at own
  have hl := flat_length o
  have e1 := own.cellAt (m * 2) (by omega)
  have e2 := own.cellAt (m * 2 + 1) (by omega)
  refine ⟨?_, ?_, fun j => own.frozenAt j⟩
  · rw [e1]
    have := flat_lo o m
    rw [show 2 * m = m * 2 by omega, List.getElem?_eq_getElem (by omega)] at this
    simp only [List.getElem?_map, List.getElem?_eq_getElem (show m * 2 < (flat o).length by omega), Option.map_some]
    unfold Sp.at
    rw [← this]; rfl
  · rw [e2]
    have := flat_hi o m
    rw [show 2 * m = m * 2 by omega, List.getElem?_eq_getElem (by omega)] at this
    simp only [List.getElem?_map, List.getElem?_eq_getElem (show m * 2 + 1 < (flat o).length by omega), Option.map_some]
    unfold Sp.at
    rw [← this]; rfl
end Go.Proofs.Ytjndcfamfminkar
/- The walk through the program's laying of spans behind a set that it makes. No statement of the seat is proved here. -/
namespace Go.Proofs.Ytjndcfamfminkar
open Go.RowKit
end Go.Proofs.Ytjndcfamfminkar
/- The walks through the program's cutting of a set, and its going through two sets. No statement of the seat is proved here. -/
namespace Go.Proofs.Ytjndcfamfminkar
open Go.RowKit
theorem flat_take : ∀ (ps : Sp) (k : Nat), flat (ps.take k) = (flat ps).take (2 * k)
  | [], k => by simp [flat]
  | p :: ps, 0 => by simp [flat]
  | p :: ps, k + 1 => by rw [List.take_succ_cons, flat, flat, flat_take ps k, show 2 * (k + 1) = 2 * k + 1 + 1 by omega, List.take_succ_cons, List.take_succ_cons]
theorem flat_drop : ∀ (ps : Sp) (k : Nat), flat (ps.drop k) = (flat ps).drop (2 * k)
  | [], k => by simp [flat]
  | p :: ps, 0 => by simp [flat]
  | p :: ps, k + 1 => by rw [List.drop_succ_cons, flat, flat_drop ps k, show 2 * (k + 1) = 2 * k + 1 + 1 by omega, List.drop_succ_cons, List.drop_succ_cons]
theorem RdP.take {w : World} {a : Option Addr} {len : Nat} {ps : Sp} {F : List Nat} (h : RdP w a len ps F) {k : Nat} (hk : k ≤ len) : ∃ G, RdP w a k (ps.take k) G ∧ ∀ b ∈ G, b ∈ F := by
  have hl := h.length
  by_cases h0 : k = 0
  · subst h0
    exact ⟨[], by simpa using (RdP.nil (w := w) (a := a)), by simp⟩
  · rcases h.rd.cells with ⟨e, _⟩ | ⟨b, off, hp, e, eF, hc⟩
    · omega
    · refine ⟨F, ⟨by simp; omega, ?_, .inr ⟨b, off, by omega, e, eF, fun i hi => ?_⟩⟩, fun b hb => hb⟩
      · rw [flat_length]; simp; omega
      · rw [hc i (by omega), flat_take]
        simp [List.getD_eq_getElem?_getD, hi]
theorem RdP.drop {w : World} {b off len : Nat} {ps : Sp} {F : List Nat} (h : RdP w (some ⟨b, off, none⟩) len ps F) {k : Nat} (hk : k < len) : RdP w (some ⟨b, off + k * 2, none⟩) (len - k) (ps.drop k) F := by
  have hl := h.length
  rcases h.rd.cells with ⟨e, _⟩ | ⟨b', off', hp, e, eF, hc⟩
  · omega
  · obtain ⟨rfl, rfl⟩ : b = b' ∧ off = off' := by simpa using e
    refine ⟨by simp; omega, ?_, .inr ⟨b, off + k * 2, by omega, rfl, eF, fun i hi => ?_⟩⟩
    · rw [flat_length]; simp; omega
    · rw [show off + k * 2 + i = off + (2 * k + i) by omega, hc (2 * k + i) (by omega), flat_drop]
      simp [List.getD_eq_getElem?_getD]
end Go.Proofs.Ytjndcfamfminkar
/- The walk through the program's going through two sets. No statement of the seat is proved here. -/
namespace Go.Proofs.Ytjndcfamfminkar
open Go.RowKit
theorem LayAt.below {w W : World} {B n : Nat} {v0 v : Value} {o : Sp} {xs : List Value} (h : LayAt w B v0 v o W) (h0 : w.ownsRow B 107 2 v0 n xs) (hB : B ≤ w.heap.size) : Below B w W :=
  ⟨h.grown.os, h.grown.tape, h.grown.output, h.grown.size, fun k hk => h.grown.block k (by omega) (fun e => by have := (h0.lt k e.symm).1; omega)⟩
/-- Midway in a round: the set that is made, the span's box. -/
structure MidB (w : World) (nb : Nat) (x y : Int) (v : Value) (o : Sp) (W : World) : Prop where
  own : W.ownsRow w.heap.size 107 2 v o.length ((flat o).map (Value.int .i64))
  bel : Below w.heap.size w W
  box : Blk W nb #[.int .i64 x, .int .i64 y] 107
  ne : some nb ≠ v.ownBlock
theorem MidB.alloc {w : World} {nb : Nat} {x y : Int} {v : Value} {o : Sp} {W : World} (h : MidB w nb x y v o W) (ob : Obj) : MidB w nb x y v o (W.alloc ob) := ⟨h.own.alloc _, Below.allocW _ h.bel (Nat.le_refl _), h.box.alloc _, h.ne⟩
theorem MidB.drew {w : World} {nb : Nat} {x y : Int} {v : Value} {o : Sp} {W : World} (h : MidB w nb x y v o W) : MidB w nb x y v o W.drew := ⟨⟨h.own.1, h.own.2⟩, h.bel.drew, h.box, h.ne⟩
/-- Behind the first laying: what lay beside lies there still. -/
structure AftB (w : World) (nb : Nat) (x y : Int) (v v' : Value) (o' : Sp) (W W' : World) : Prop where
  mid : MidB w nb x y v' o' W'
  old : ∀ g cs t, Blk W g cs t → some g ≠ v.ownBlock → Blk W' g cs t ∧ some g ≠ v'.ownBlock
theorem AftB.of {w : World} {nb : Nat} {x y : Int} {v v' : Value} {o o' : Sp} {W W' : World} (h : MidB w nb x y v o W) (k : LayAt W w.heap.size v v' o' W') : AftB w nb x y v v' o' W W' := by
  have hold : ∀ g cs t, Blk W g cs t → some g ≠ v.ownBlock → Blk W' g cs t ∧ some g ≠ v'.ownBlock := fun g cs t hb hne => by
    refine ⟨hb.agree (k.grown.block g hb.lt hne), ?_⟩
    rcases k.fresh with e | e
    · rw [e]; exact hne
    · intro e2; have := e g e2.symm; have := hb.lt; omega
  obtain ⟨h1, h2⟩ := hold _ _ _ h.box h.ne
  exact ⟨⟨k.own, h.bel.trans (k.below h.own h.bel.size), h1, h2⟩, hold⟩
/-- Ahead of the second laying: the one span's slice. -/
structure TwoB (w : World) (nb : Nat) (x y : Int) (v' : Value) (o' : Sp) (g : Nat) (W : World) : Prop where
  mid : MidB w nb x y v' o' W
  one : Blk W g #[.int .i64 x, .int .i64 y] 107
  ne : some g ≠ v'.ownBlock
theorem AftB.two {w : World} {nb : Nat} {x y : Int} {v v' : Value} {o o' : Sp} {W W' : World} (h : AftB w nb x y v v' o' (W.alloc (.cells #[.int .i64 x, .int .i64 y] 107)).drew W') (k : MidB w nb x y v o W) : TwoB w nb x y v' o' W.heap.size W' := by
  obtain ⟨h1, h2⟩ := h.old _ _ _ (Blk.made W _ _) (fun e => by have := (k.own.lt _ e.symm).2; omega)
  exact ⟨h.mid, h1, h2⟩
theorem AftB.new {w : World} {nb : Nat} {x y : Int} {v v' : Value} {o' : Sp} {W W' : World} (h : AftB w nb x y v v' o' W W') : TwoB w nb x y v' o' W'.heap.size (W'.alloc (.cells #[.int .i64 x, .int .i64 y] 107)) :=
  ⟨h.mid.alloc _, Blk.made _ _ _, fun e => by have := (h.mid.own.lt _ e.symm).2; omega⟩
end Go.Proofs.Ytjndcfamfminkar
/- The walks through the program's copying of a set, and the library's comparing of two. No statement of the seat is proved here. -/
namespace Go.Proofs.Ytjndcfamfminkar
open Go.RowKit
end Go.Proofs.Ytjndcfamfminkar
/- The walks through the program's copying of an item and of an agent. No statement of the seat is proved here. -/
namespace Go.Proofs.Ytjndcfamfminkar
open Go.RowKit
/-- A new agent whose list can grow; the set lies apart from it. -/
def NewAgH (w : World) (x : Ag) (e : Ending) (w' : World) : Prop := ∃ (q1 : Option Addr) (k1 : Nat) (q2 : Option Addr) (l2 k2 : Nat) (F G : List Nat) (lo : Nat) (vs : List Value) (GG : List Nat),
  e = .returned (.agg #[.int .i64 x.id, .int .i64 x.epoch, .bool x.live, .int .i64 x.granted, .slice q1 x.sealed.length k1, .slice q2 l2 k2, .int .i64 x.next]) ∧ RdL itK w' q1 x.sealed.length x.sealed F ∧ RdP w' q2 l2 x.taken G ∧ Capd q1 x.sealed.length k1 ∧ Capd q2 l2 k2 ∧ Own w.heap.size w' F ∧ Own w.heap.size w' G ∧ (∀ b ∈ F, b ∉ G) ∧ Below w.heap.size w w' ∧
  GrowL itK 54 x.sealed lo x.sealed.length (.slice q1 x.sealed.length k1) vs GG w' ∧ w.heap.size ≤ lo ∧ (∀ b ∈ G, ¬ (Value.slice q1 x.sealed.length k1).ownBlock = some b) ∧ ∀ b ∈ GG, b ∉ G
theorem NewAgH.plain {w : World} {x : Ag} {e : Ending} {w' : World} (h : NewAgH w x e w') : NewAg w x e w' := by
  obtain ⟨q1, k1, q2, l2, k2, F, G, lo, vs, GG, rfl, r1, r2, c1, c2, o1, o2, ap, b, _⟩ := h
  exact ⟨_, F, G, rfl, ⟨q1, _, k1, q2, l2, k2, rfl, r1, r2, c1, c2⟩, o1, o2, ap, b⟩
/-- An agent's copy in the making, behind k items. -/
structure CpAg (w : World) (A : Array Value) (x : Ag) (lo k : Nat) (v : Value) (vs : List Value) (G : List Nat) (W : World) : Prop where
  box : Blk W w.heap.size A 25
  res : Blk W (w.heap.size + 1) #[.int .i64 0, .int .i64 0, .bool false, .int .i64 0, .slice none 0 0, .slice none 0 0, .int .i64 0] 25
  bel : Below w.heap.size w W
  grow : GrowL itK 54 x.sealed lo k v vs G W
  big : w.heap.size + 2 ≤ lo
theorem CpAg.below {w W W' : World} {A : Array Value} {x : Ag} {lo k : Nat} {v : Value} {vs : List Value} {G : List Nat} (h : CpAg w A x lo k v vs G W) (b : Below W.heap.size W W') : CpAg w A x lo k v vs G W' :=
  ⟨h.box.below b, h.res.below b, Below.next h.bel b, h.grow.below b, h.big⟩
theorem CpAg.step {w W W' : World} {A : Array Value} {x : Ag} {lo k : Nat} {v v' : Value} {vs vs' : List Value} {G G' : List Nat} (h : CpAg w A x lo k v vs G W) (hgrow : W.grownBy W' v.ownBlock) (hg : GrowL itK 54 x.sealed lo (k + 1) v' vs' G' W') : CpAg w A x lo (k + 1) v' vs' G' W' := by
  have big := h.big
  have ot : ∀ b, b < lo → W'.heap[b]? = W.heap[b]? := fun b hb => h.grow.other hgrow hb
  exact ⟨h.box.agree (ot _ (by omega)), h.res.agree (ot _ (by omega)), h.bel.grown hgrow h.bel.size (fun b hb => by have := (h.grow.row.lt b hb).1; omega), hg, big⟩
end Go.Proofs.Ytjndcfamfminkar
/- An entry as the program holds it, in memory. No statement of the seat is proved here. -/
namespace Go.Proofs.Ytjndcfamfminkar
open Go.RowKit
end Go.Proofs.Ytjndcfamfminkar
/- What the walks through the model's Seal and the program's share. No statement of the seat is proved here. -/
namespace Go.Proofs.Ytjndcfamfminkar
open Go.RowKit
def Ag.item (x : Ag) (c k n : Int) (s : Sk) : It := ⟨(x.sealed.length : Int) + 1, c, k, n, s⟩
def Ag.plus (x : Ag) (y : It) : Ag := ⟨x.id, x.epoch, x.live, x.granted, x.sealed ++ [y], x.taken, x.next⟩
section
variable {α : Type} {K : ElK α} {e : TypeId} {xs : List α} {lo k : Nat} {v : Value} {vs : List Value} {G : List Nat} {W W' : World}
/-- A list that has all of its elements may get one more. -/
theorem GrowL.extend (h : GrowL K e xs lo k v vs G W) (hk : xs.length = k) (z : α) : GrowL K e (xs ++ [z]) lo k v vs G W :=
  ⟨h.row, by rw [List.take_append_of_le_length (by omega)]; exact h.rd, h.og, h.ap, h.lw⟩
end
theorem NewAgG.apart {w : World} {x : Ag} {e : Ending} {w' : World} (h : NewAgG w x e w') : NewAgH w x e w' := by
  obtain ⟨q1, k1, q2, l2, k2, F, G, lo, vs, GG, he, r1, r2, c1, c2, o1, o2, ap, b, g, hlo, hG⟩ := h
  exact ⟨q1, k1, q2, l2, k2, F, G, lo, vs, GG, he, r1, r2, c1, c2, o1, o2, ap, b, g, hlo, fun y hy e => by have := (g.row.lt y e).1; have := hG y hy; omega, fun y hy hx => by have := g.og.ge y hy; have := hG y hx; omega⟩
/-- A copy of an agent whose list may get one more; L: behind it all is newer. -/
structure SealC (B L lo n1 : Nat) (x : Ag) (q1 : Option Addr) (k1 : Nat) (q2 : Option Addr) (l2 k2 : Nat) (F G GG : List Nat) (vs : List Value) (W : World) : Prop where
  len : x.sealed.length = n1
  rl : RdL itK W q1 n1 x.sealed F
  rp : RdP W q2 l2 x.taken G
  cp1 : Capd q1 n1 k1
  cp2 : Capd q2 l2 k2
  oF : Own B W F
  oG : Own B W G
  ap : ∀ b ∈ F, b ∉ G
  gr : GrowL itK 54 x.sealed lo n1 (.slice q1 n1 k1) vs GG W
  hlo : B ≤ lo
  g1 : ∀ b ∈ G, ¬ (Value.slice q1 n1 k1).ownBlock = some b
  g2 : ∀ b ∈ GG, b ∉ G
  l1 : ∀ b ∈ F, b < L
  l2' : ∀ b ∈ G, b < L
  l3 : ∀ b ∈ GG, b < L
  l4 : ∀ b, (Value.slice q1 n1 k1).ownBlock = some b → b < L
  l5 : lo ≤ L
theorem SealC.below {B L lo n1 : Nat} {x : Ag} {q1 : Option Addr} {k1 : Nat} {q2 : Option Addr} {l2 k2 : Nat} {F G GG : List Nat} {vs : List Value} {W W' : World} (h : SealC B L lo n1 x q1 k1 q2 l2 k2 F G GG vs W) (b : Below W.heap.size W W') : SealC B L lo n1 x q1 k1 q2 l2 k2 F G GG vs W' :=
  ⟨h.len, h.rl.below b, h.rp.below b, h.cp1, h.cp2, h.oF.below h.rl.lt b, h.oG.below h.rp.lt b, h.ap, h.gr.below b, h.hlo, h.g1, h.g2, h.l1, h.l2', h.l3, h.l4, h.l5⟩
theorem NewAgH.at {w : World} {x : Ag} {e : Ending} {w' : World} {n1 : Nat} (h : NewAgH w x e w') (hn : x.sealed.length = n1) : ∃ (q1 : Option Addr) (k1 : Nat) (q2 : Option Addr) (l2 k2 : Nat) (F G GG : List Nat) (lo : Nat) (vs : List Value),
    e = .returned (.agg #[.int .i64 x.id, .int .i64 x.epoch, .bool x.live, .int .i64 x.granted, .slice q1 n1 k1, .slice q2 l2 k2, .int .i64 x.next]) ∧ SealC w.heap.size w'.heap.size lo n1 x q1 k1 q2 l2 k2 F G GG vs w' ∧ Below w.heap.size w w' := by
  subst hn
  obtain ⟨q1, k1, q2, l2, k2, F, G, lo, vs, GG, he, r1, r2, c1, c2, o1, o2, ap, b, g, hlo, h1, h2⟩ := h
  exact ⟨q1, k1, q2, l2, k2, F, G, GG, lo, vs, he, ⟨rfl, r1, r2, c1, c2, o1, o2, ap, g, hlo, h1, h2, r1.lt, r2.lt, g.lts.1, g.lts.2.1, g.lts.2.2⟩, b⟩
/-- What a Seal has before it: the agent, the summary, the result's place. -/
structure SealW (w : World) (A S : Array Value) (W : World) : Prop where
  box : Blk W w.heap.size A 25
  sk : Blk W (w.heap.size + 1) S 44
  res : Blk W (w.heap.size + 1 + 1) #[.int .i64 0, .int .i64 0, .bool false, .int .i64 0, .slice none 0 0, .slice none 0 0, .int .i64 0] 25
  bel : Below w.heap.size w W
theorem SealW.below {w W W' : World} {A S : Array Value} (h : SealW w A S W) (b : Below W.heap.size W W') : SealW w A S W' := ⟨h.box.below b, h.sk.below b, h.res.below b, Below.next h.bel b⟩
theorem SealW.made (w : World) (A S : Array Value) : SealW w A S (((w.alloc (.cells A 25)).alloc (.cells S 44)).alloc (.cells #[.int .i64 0, .int .i64 0, .bool false, .int .i64 0, .slice none 0 0, .slice none 0 0, .int .i64 0] 25)) :=
  ⟨((Blk.made _ _ _).alloc _).alloc _, (Blk.made_eq (by simp)).alloc _, Blk.made_eq (by simp), Below.allocW _ (Below.allocW _ (Below.allocW _ (Below.refl _ _) (Nat.le_refl _)) (Nat.le_refl _)) (Nat.le_refl _)⟩
theorem SealW.kept {w W W' : World} {A S : Array Value} (h : SealW w A S W) (hk : ∀ b, b < w.heap.size + 3 → W'.heap[b]? = W.heap[b]?) (hs : W.heap.size ≤ W'.heap.size) (hb : Below w.heap.size w W') : SealW w A S W' := by
  have _ := hs
  exact ⟨h.box.agree (hk _ (by omega)), h.sk.agree (hk _ (by omega)), h.res.agree (hk _ (by omega)), hb⟩
/-- .. and the copy in a variable at L. -/
structure SealL (w : World) (A S : Array Value) (B L lo n1 : Nat) (x : Ag) (q1 : Option Addr) (k1 : Nat) (q2 : Option Addr) (l2 k2 : Nat) (F G GG : List Nat) (vs : List Value) (W : World) : Prop where
  base : SealW w A S W
  loc : Blk W L #[.int .i64 x.id, .int .i64 x.epoch, .bool x.live, .int .i64 x.granted, .slice q1 n1 k1, .slice q2 l2 k2, .int .i64 x.next] 25
  c : SealC B L lo n1 x q1 k1 q2 l2 k2 F G GG vs W
  gB : w.heap.size + 3 ≤ B
  gL : B ≤ L
theorem SealL.below {w : World} {A S : Array Value} {B L lo n1 : Nat} {x : Ag} {q1 : Option Addr} {k1 : Nat} {q2 : Option Addr} {l2 k2 : Nat} {F G GG : List Nat} {vs : List Value} {W W' : World} (h : SealL w A S B L lo n1 x q1 k1 q2 l2 k2 F G GG vs W) (b : Below W.heap.size W W') : SealL w A S B L lo n1 x q1 k1 q2 l2 k2 F G GG vs W' := ⟨h.base.below b, h.loc.below b, h.c.below b, h.gB, h.gL⟩
/-- .. and behind the append. -/
structure SealD (w : World) (A S : Array Value) (L : Nat) (C : Array Value) (y : Ag) (F G : List Nat) (W : World) : Prop where
  base : SealW w A S W
  loc : Blk W L C 25
  rd : RdAg W (.agg C) y F G
  oF : Own (w.heap.size + 3) W F
  oG : Own (w.heap.size + 3) W G
  ap : ∀ b ∈ F, b ∉ G
  gL : w.heap.size + 3 ≤ L
theorem SealD.below {w : World} {A S : Array Value} {L : Nat} {C : Array Value} {y : Ag} {F G : List Nat} {W W' : World} (h : SealD w A S L C y F G W) (b : Below W.heap.size W W') : SealD w A S L C y F G W' :=
  ⟨h.base.below b, h.loc.below b, h.rd.below b, h.oF.below h.rd.lt1 b, h.oG.below h.rd.lt2 b, h.ap, h.gL⟩
theorem SealL.done {w : World} {A S : Array Value} {B L lo n1 : Nat} {x : Ag} {q1 : Option Addr} {k1 : Nat} {q2 : Option Addr} {l2 k2 : Nat} {F G GG : List Nat} {vs : List Value} {W W' : World} (h : SealL w A S B L lo n1 x q1 k1 q2 l2 k2 F G GG vs W) {y : It} {cs : Array Value} {Fk : List Nat} {g4 cp4 : Nat}
    (rk : RdIt W (.agg cs) y Fk) (hn : cs.size = 11) (ok : Own (L + 1) W Fk)
    (hown : W'.ownsRow lo 54 11 (.slice (some ⟨g4, 0, none⟩) (n1 + 1) cp4) (n1 + 1) (vs ++ cs.toList)) (hgrow : W.grownBy W' (Value.slice q1 n1 k1).ownBlock) (hat : (Value.slice q1 n1 k1).ownBlock = some g4 ∨ g4 = W.heap.size) :
    SealW w A S W' ∧ Blk W' L #[.int .i64 x.id, .int .i64 x.epoch, .bool x.live, .int .i64 x.granted, .slice q1 n1 k1, .slice q2 l2 k2, .int .i64 x.next] 25 ∧ ∃ F', SealD w A S L #[.int .i64 x.id, .int .i64 x.epoch, .bool x.live, .int .i64 x.granted, .slice (some ⟨g4, 0, none⟩) (n1 + 1) cp4, .slice q2 l2 k2, .int .i64 x.next] (x.plus y) F' G (W'.setCell ⟨L, 4, none⟩ (.slice (some ⟨g4, 0, none⟩) (n1 + 1) cp4)) := by
  have gB := h.gB; have gL := h.gL; have hlo := h.c.hlo; have l5 := h.c.l5
  have hLW := h.loc.lt
  have hx : (x.sealed ++ [y])[n1]? = some y := by rw [← h.c.len]; simp
  have g0 := h.c.gr.extend h.c.len y
  have g1 := g0.step hx rk hn ok (fun b hb => by have := h.c.l3 b hb; omega) (fun b hb => by have := h.c.l4 b hb; omega) (by omega) hown hgrow hat
  obtain ⟨q, cp, F', e, r, o, cpd, pt⟩ := g1.done2 (by rw [List.length_append, h.c.len]; rfl)
  injection e with e1 e2 e3
  subst e1; subst e3
  have kp : ∀ b, b < W.heap.size → ¬ (Value.slice q1 n1 k1).ownBlock = some b → W'.heap[b]? = W.heap[b]? := fun b hb hq => hgrow.block b hb (fun e => hq e.symm)
  have lw : ∀ b, b < lo → W'.heap[b]? = W.heap[b]? := fun b hb => h.c.gr.other hgrow hb
  have bel : Below w.heap.size w W' := h.base.bel.grown hgrow h.base.bel.size (fun b hb => by have := (h.c.gr.row.lt b hb).1; omega)
  have base : SealW w A S W' := h.base.kept (fun b hb => lw b (by omega)) hgrow.size bel
  have loc : Blk W' L #[.int .i64 x.id, .int .i64 x.epoch, .bool x.live, .int .i64 x.granted, .slice q1 n1 k1, .slice q2 l2 k2, .int .i64 x.next] 25 := h.loc.agree (kp L hLW (fun e => by have := h.c.l4 L e; omega))
  have agG : Agree W W' G := fun b hb => kp b (h.c.rp.lt b hb) (h.c.g1 b hb)
  have hF : ∀ b ∈ F', b ∉ G ∧ b ≠ L := fun b hb => by
    rcases pt b hb with q | q
    · have hb' : b = g4 := by simpa [Value.ownBlock] using q.symm
      subst hb'
      rcases hat with q | q
      · exact ⟨fun hg => h.c.g1 b hg q, fun e => by have := h.c.l4 b q; omega⟩
      · exact ⟨fun hg => by have := h.c.rp.lt b hg; omega, by omega⟩
    · rcases List.mem_append.1 q with q | q
      · exact ⟨h.c.g2 b q, fun e => by have := h.c.l3 b q; omega⟩
      · exact ⟨fun hg => by have := ok.ge b q; have := h.c.l2' b hg; omega, fun e => by have := ok.ge b q; omega⟩
  have nF : L ∉ F' := fun hx => (hF L hx).2 rfl
  have nG : L ∉ G := fun hx => by have := h.c.l2' L hx; omega
  have aF := (Agree.refl W' F').thenSet nF 4 (.slice (some ⟨g4, 0, none⟩) (n1 + 1) cp4)
  have aG := agG.thenSet nG 4 (.slice (some ⟨g4, 0, none⟩) (n1 + 1) cp4)
  refine ⟨base, loc, F', ⟨⟨base.box.setOther (by omega) 4 _, base.sk.setOther (by omega) 4 _, base.res.setOther (by omega) 4 _, bel.setCell (by show w.heap.size ≤ L; omega) _⟩, loc.set 4 _, ?_, (o.agree aF).mono (by omega), (h.c.oG.agree aG).mono (by omega), fun b hb => (hF b hb).1, by omega⟩⟩
  exact ⟨_, _, _, _, _, _, rfl, r.agree aF, h.c.rp.agree aG, cpd, h.c.cp2⟩
end Go.Proofs.Ytjndcfamfminkar
/- The walk through the model's Seal. No statement of the seat is proved here. -/
namespace Go.Proofs.Ytjndcfamfminkar
open Go.RowKit
end Go.Proofs.Ytjndcfamfminkar
/- The walk through the program's Seal. No statement of the seat is proved here. -/
namespace Go.Proofs.Ytjndcfamfminkar
open Go.RowKit
theorem SealL.row {w : World} {A S : Array Value} {B L lo n1 : Nat} {x : Ag} {q1 : Option Addr} {k1 : Nat} {q2 : Option Addr} {l2 k2 : Nat} {F G GG : List Nat} {vs : List Value} {W : World} {X : Nat} (h : SealL w A S B L lo n1 x q1 k1 q2 l2 k2 F G GG vs W) (hX : L < X) (ds : Array Value) : SealL w A S B L lo n1 x q1 k1 q2 l2 k2 F G GG vs (W.setRow X ds) := by
  have gB := h.gB; have gL := h.gL
  refine ⟨⟨h.base.box.setRowOther (by omega), h.base.sk.setRowOther (by omega), h.base.res.setRowOther (by omega), below_setRow h.base.bel (by omega) _⟩, h.loc.setRowOther (by omega), ?_, gB, gL⟩
  have nF : X ∉ F := fun hx => by have := h.c.l1 _ hx; omega
  have nG : X ∉ G := fun hx => by have := h.c.l2' _ hx; omega
  have nK : X ∉ GG := fun hx => by have := h.c.l3 _ hx; omega
  have nV : ¬ (Value.slice q1 n1 k1).ownBlock = some X := fun e => by have := h.c.l4 _ e; omega
  refine ⟨h.c.len, h.c.rl.agree (Agree.row nF _), h.c.rp.agree (Agree.row nG _), h.c.cp1, h.c.cp2, h.c.oF.agree (Agree.row nF _), h.c.oG.agree (Agree.row nG _), h.c.ap, ⟨?_, h.c.gr.rd.agree (Agree.row nK _), h.c.gr.og.agree (Agree.row nK _), h.c.gr.ap, ?_⟩, h.c.hlo, h.c.g1, h.c.g2, h.c.l1, h.c.l2', h.c.l3, h.c.l4, h.c.l5⟩
  · refine ⟨h.c.gr.row.1, ?_⟩
    rcases h.c.gr.row.2 with q | ⟨g', cap, cur, h1, h2, h3, h4⟩
    · exact .inl q
    · exact .inr ⟨g', cap, cur, h1, h2, by rw [setRow_other W X g' ds (fun e => nV (by rw [h1, ← e]; rfl))]; exact h3, h4⟩
  · have := (below_setRow (Below.refl 0 W) (Nat.zero_le X) ds).size
    exact Nat.le_trans h.c.gr.lw this
end Go.Proofs.Ytjndcfamfminkar
/- What the walks through the model's AgentSend and the program's share. No statement of the seat is proved here. -/
namespace Go.Proofs.Ytjndcfamfminkar
open Go.RowKit
/-- A new agent and a new frame. -/
def NewAgFr (w : World) (z : Ag × Fr) (e : Ending) (w' : World) : Prop := ∃ v u F G F' G', e = .returned (.tuple #[v, u]) ∧ RdAg w' v z.1 F G ∧ RdFr w' u z.2 F' G' ∧ Own w.heap.size w' F ∧ Own w.heap.size w' G ∧ Own w.heap.size w' F' ∧ Own w.heap.size w' G' ∧ (∀ b ∈ F, b ∉ G) ∧ (∀ b ∈ F', b ∉ G') ∧ (∀ b ∈ F ++ G, b ∉ F' ++ G') ∧ Below w.heap.size w w'
/-- What an AgentSend has before it: the agent, the places of its two results. -/
structure SendW (w : World) (A : Array Value) (W : World) : Prop where
  box : Blk W w.heap.size A 25
  ra : Blk W (w.heap.size + 1) #[.int .i64 0, .int .i64 0, .bool false, .int .i64 0, .slice none 0 0, .slice none 0 0, .int .i64 0] 25
  rf : Blk W (w.heap.size + 1 + 1) #[.int .i64 0, .int .i64 0, .int .i64 0, .int .i64 0, .slice none 0 0, .int .i64 0, .int .i64 0, .int .i64 0, .int .i64 0, .int .i64 0, .int .i64 0, .int .i64 0, .int .i64 0, .slice none 0 0, .slice none 0 0, .slice none 0 0] 56
  bel : Below w.heap.size w W
theorem SendW.below {w W W' : World} {A : Array Value} (h : SendW w A W) (b : Below W.heap.size W W') : SendW w A W' := ⟨h.box.below b, h.ra.below b, h.rf.below b, Below.next h.bel b⟩
theorem SendW.made (w : World) (A : Array Value) : SendW w A (((w.alloc (.cells A 25)).alloc (.cells #[.int .i64 0, .int .i64 0, .bool false, .int .i64 0, .slice none 0 0, .slice none 0 0, .int .i64 0] 25)).alloc (.cells #[.int .i64 0, .int .i64 0, .int .i64 0, .int .i64 0, .slice none 0 0, .int .i64 0, .int .i64 0, .int .i64 0, .int .i64 0, .int .i64 0, .int .i64 0, .int .i64 0, .int .i64 0, .slice none 0 0, .slice none 0 0, .slice none 0 0] 56)) :=
  ⟨((Blk.made _ _ _).alloc _).alloc _, (Blk.made_eq (by simp)).alloc _, Blk.made_eq (by simp), Below.allocW _ (Below.allocW _ (Below.allocW _ (Below.refl _ _) (Nat.le_refl _)) (Nat.le_refl _)) (Nat.le_refl _)⟩
/-- .. and the copy in a variable at L. -/
structure SendL (w : World) (A : Array Value) (L : Nat) (C : Array Value) (y : Ag) (F G : List Nat) (W : World) : Prop where
  base : SendW w A W
  loc : Blk W L C 25
  rd : RdAg W (.agg C) y F G
  oF : Own (w.heap.size + 3) W F
  oG : Own (w.heap.size + 3) W G
  ap : ∀ b ∈ F, b ∉ G
  gL : w.heap.size + 3 ≤ L
  lF : ∀ b ∈ F, b < L
  lG : ∀ b ∈ G, b < L
theorem SendL.below {w : World} {A : Array Value} {L : Nat} {C : Array Value} {y : Ag} {F G : List Nat} {W W' : World} (h : SendL w A L C y F G W) (b : Below W.heap.size W W') : SendL w A L C y F G W' :=
  ⟨h.base.below b, h.loc.below b, h.rd.below b, h.oF.below h.rd.lt1 b, h.oG.below h.rd.lt2 b, h.ap, h.gL, h.lF, h.lG⟩
/-- Its last field is turned. -/
theorem SendL.turn {w : World} {A : Array Value} {L : Nat} {x : Ag} {q1 q2 : Option Addr} {r1 k1 r2 k2 : Nat} {F G : List Nat} {W : World} (h : SendL w A L #[.int .i64 x.id, .int .i64 x.epoch, .bool x.live, .int .i64 x.granted, .slice q1 r1 k1, .slice q2 r2 k2, .int .i64 x.next] x F G W) (sq : Int) :
    SendL w A L #[.int .i64 x.id, .int .i64 x.epoch, .bool x.live, .int .i64 x.granted, .slice q1 r1 k1, .slice q2 r2 k2, .int .i64 sq] ⟨x.id, x.epoch, x.live, x.granted, x.sealed, x.taken, sq⟩ F G (W.setCell ⟨L, 6, none⟩ (.int .i64 sq)) := by
  have gL := h.gL
  have nF : L ∉ F := fun hx => by have := h.lF L hx; omega
  have nG : L ∉ G := fun hx => by have := h.lG L hx; omega
  obtain ⟨a1, m1, c1, a2, m2, c2, e, g1, g2, g3, g4⟩ := h.rd
  injection e with e
  injection e with e
  simp at e
  obtain ⟨e1, e2⟩ := e
  obtain ⟨rfl, rfl, rfl⟩ := e1
  obtain ⟨rfl, rfl, rfl⟩ := e2
  exact ⟨⟨h.base.box.setOther (by omega) 6 _, h.base.ra.setOther (by omega) 6 _, h.base.rf.setOther (by omega) 6 _, h.base.bel.setCell (by show w.heap.size ≤ L; omega) _⟩, h.loc.set 6 _,
    ⟨_, _, _, _, _, _, rfl, g1.agree (.set nF 6 _), g2.agree (.set nG 6 _), g3, g4⟩, h.oF.agree (.set nF 6 _), h.oG.agree (.set nG 6 _), h.ap, gL, h.lF, h.lG⟩
/-- Both results are laid. -/
theorem SendL.put {w : World} {A : Array Value} {L : Nat} {C D : Array Value} {y : Ag} {f : Fr} {F G G' : List Nat} {W : World} (h : SendL w A L C y F G W) (hr : RdFr W (.agg D) f [] G') (ho : Own (w.heap.size + 3) W G') (hg : ∀ b ∈ G', L < b) :
    NewAgFr w (y, f) (.returned (.tuple #[.agg C, .agg D])) ((W.setRow (w.heap.size + 1) C).setRow (w.heap.size + 1 + 1) D) ∧ Blk ((W.setRow (w.heap.size + 1) C).setRow (w.heap.size + 1 + 1) D) (w.heap.size + 1) C 25 ∧ Blk ((W.setRow (w.heap.size + 1) C).setRow (w.heap.size + 1 + 1) D) (w.heap.size + 1 + 1) D 56 := by
  have ag : ∀ {X : List Nat}, (∀ b ∈ X, w.heap.size + 3 ≤ b) → Agree W ((W.setRow (w.heap.size + 1) C).setRow (w.heap.size + 1 + 1) D) X := fun hX b hb => (setRow_other _ _ b _ (fun e => by have := hX b hb; omega)).trans (setRow_other W _ b _ (fun e => by have := hX b hb; omega))
  have aF := ag h.oF.ge
  have aG := ag h.oG.ge
  have aI := ag ho.ge
  refine ⟨⟨_, _, F, G, [], G', rfl, h.rd.agree aF aG, hr.agree (fun b hb => by cases hb) aI, (h.oF.agree aF).mono (by omega), (h.oG.agree aG).mono (by omega), Own.nil, (ho.agree aI).mono (by omega), h.ap, (fun b hb => by cases hb), fun b hb hx => ?_, below_setRow (below_setRow h.base.bel (by omega) _) (by omega) _⟩, h.base.ra.setRow.setRowOther (by omega), (h.base.rf.setRowOther (by omega)).setRow⟩
  have h1 := hg b (by simpa using hx)
  rcases List.mem_append.1 hb with hb | hb
  · have := h.lF b hb; omega
  · have := h.lG b hb; omega
end Go.Proofs.Ytjndcfamfminkar
/- The walks through the program's numbers, bytesOfNumbers and SketchBytes. No statement of the seat is proved here. -/
namespace Go.Proofs.Ytjndcfamfminkar
open Go.RowKit
section
variable {P : Program} {ops : Array Oper} {Q : Exit → Act → World → Prop} {a : Act} {w : World} {o : Oper} {K : Act → World → Prop}
end
theorem NumSt.below {w W W' : World} {cs : Array Value} {t : TypeId} {v : Value} {xs : List Int} (h : NumSt w cs t v xs W) (hb : Below W.heap.size W W') : NumSt w cs t v xs W' := ⟨h.box.below hb, ownsRow_below h.own hb, Below.next h.bel hb⟩
end Go.Proofs.Ytjndcfamfminkar
/- The walk through the program's GetNum: it defers, it calls readNum, it recovers. No statement of the seat is proved here. -/
namespace Go.Proofs.Ytjndcfamfminkar
open Go.RowKit





end Go.Proofs.Ytjndcfamfminkar
/- The walk through the program's numbersOfBytes. No statement of the seat is proved here. -/
namespace Go.Proofs.Ytjndcfamfminkar
open Go.RowKit
end Go.Proofs.Ytjndcfamfminkar
/- The walks through the program's SketchBytes, numbersOfItem, crcBytes. No statement of the seat is proved here. -/
namespace Go.Proofs.Ytjndcfamfminkar
open Go.RowKit
theorem ok_shaped {s : Sk} (h : s.ok = true) : s.shaped = true := by
  have l := (Sk.ok_lens h).1
  cases q : s.shaped
  · have e : okT s s.tl = false := by unfold okT; rw [q]; rfl
    rw [okT_ok (fun _ => rfl), h] at e
    cases e
  · rfl
end Go.Proofs.Ytjndcfamfminkar
/- The walks through the program's sketchOfNumbers and SketchOf. No statement of the seat is proved here. -/
namespace Go.Proofs.Ytjndcfamfminkar
open Go.RowKit
end Go.Proofs.Ytjndcfamfminkar
/- The walk through the model's AgentSend. No statement of the seat is proved here. -/
namespace Go.Proofs.Ytjndcfamfminkar
open Go.RowKit
end Go.Proofs.Ytjndcfamfminkar
/- The walk through the program's AgentSend. No statement of the seat is proved here. -/
namespace Go.Proofs.Ytjndcfamfminkar
open Go.RowKit
end Go.Proofs.Ytjndcfamfminkar
/- The walks through the program's SetAdd and SetJoin. No statement of the seat is proved here. -/
namespace Go.Proofs.Ytjndcfamfminkar
open Go.RowKit
end Go.Proofs.Ytjndcfamfminkar
/- The walks through the program's newsFor, turnedBy and AgentHear. No statement of the seat is proved here. -/
namespace Go.Proofs.Ytjndcfamfminkar
open Go.RowKit
section
variable {P : Program} {ops : Array Oper} {Q : Exit → Act → World → Prop} {a : Act} {w : World} {o : Oper} {K : Act → World → Prop}
end
/-- What an AgentHear has: both arguments, the result's place, the copy at L. -/
structure HearI (w : World) (A B : Array Value) (L : Nat) (C : Array Value) (y : Ag) (F G : List Nat) (W : World) : Prop where
  box : Blk W w.heap.size A 25
  fr : Blk W (w.heap.size + 1) B 56
  res : Blk W (w.heap.size + 1 + 1) #[.int .i64 0, .int .i64 0, .bool false, .int .i64 0, .slice none 0 0, .slice none 0 0, .int .i64 0] 25
  bel : Below w.heap.size w W
  loc : Blk W L C 25
  rd : RdAg W (.agg C) y F G
  oF : Own (w.heap.size + 3) W F
  oG : Own (w.heap.size + 3) W G
  ap : ∀ b ∈ F, b ∉ G
  gL : w.heap.size + 3 ≤ L
  lF : ∀ b ∈ F, b < L
theorem HearI.below {w : World} {A B : Array Value} {L : Nat} {C : Array Value} {y : Ag} {F G : List Nat} {W W' : World} (h : HearI w A B L C y F G W) (b : Below W.heap.size W W') : HearI w A B L C y F G W' :=
  ⟨h.box.below b, h.fr.below b, h.res.below b, Below.next h.bel b, h.loc.below b, h.rd.below b, h.oF.below h.rd.lt1 b, h.oG.below h.rd.lt2 b, h.ap, h.gL, h.lF⟩
/-- The result is laid. -/
theorem HearI.put {w : World} {A B : Array Value} {L : Nat} {C D : Array Value} {x y : Ag} {F G : List Nat} {W : World} {c c' : Int} (h : HearI w A B L C x F G W) (hr : RdAg W (.agg D) y F G) (hc : c = c') :
    NewAg2 w (y, c') (.returned (.tuple #[.agg D, .int .i64 c])) (W.setRow (w.heap.size + 1 + 1) D) := by
  have nF : w.heap.size + 1 + 1 ∉ F := fun hx => by have := h.oF.ge _ hx; omega
  have nG : w.heap.size + 1 + 1 ∉ G := fun hx => by have := h.oG.ge _ hx; omega
  exact ⟨_, F, G, c, rfl, hr.agree (Agree.row nF _) (Agree.row nG _), hc, (h.oF.agree (Agree.row nF _)).mono (by omega), (h.oG.agree (Agree.row nG _)).mono (by omega), h.ap, below_setRow h.bel (by omega) _⟩
end Go.Proofs.Ytjndcfamfminkar
/- What is read is no longer than it may be. No statement of the seat is proved here. -/
namespace Go.Proofs.Ytjndcfamfminkar
open Go.RowKit
end Go.Proofs.Ytjndcfamfminkar
/- What the laws over agents take of Seal, Waiting, AgentSend and AgentHear. No statement of the seat is proved here. -/
namespace Go.Proofs.Ytjndcfamfminkar
open Go.RowKit
set_option maxRecDepth 200000 in
theorem waitSpecA_any (v : Value) (x : Ag) (F : List Nat) (w : World) (h : RdA w v x F) (hf : x.fits) :
    Calls Try.prog 21 #[v] w fun e w' => ∃ a len cap F', e = .returned (.slice a len cap) ∧ RdI w' a len x.waits F' ∧ Own w.heap.size w' F' ∧ Below w.heap.size w w' := by
  obtain ⟨F1, F2, rfl, h⟩ := h
  refine (waiting_any v x F1 F2 w h (fun y hy => (hf.each y hy).wide) hf.len.1 hf.len.2).mono ?_
  rintro e w' ⟨⟨u, rfl, hown⟩, hb⟩
  obtain ⟨a, cap, F', rfl, r, o⟩ := rdI_of_own hown
  exact ⟨a, _, cap, F', rfl, r, o, hb⟩
set_option maxRecDepth 200000 in
theorem waitImplA_any (v : Value) (x : Ag) (F : List Nat) (w : World) (h : RdA w v x F) (hf : x.fits) :
    Calls Try.prog 22 #[v] w fun e w' => ∃ a len cap F', e = .returned (.slice a len cap) ∧ RdI w' a len x.waits F' ∧ Own w.heap.size w' F' ∧ Below w.heap.size w w' := by
  obtain ⟨F1, F2, rfl, h⟩ := h
  refine (waitingImpl_any v x F1 F2 w h (fun y hy => (hf.each y hy).wide) hf.len.1 hf.len.2).mono ?_
  rintro e w' ⟨⟨u, rfl, hown⟩, hb⟩
  obtain ⟨a, cap, F', rfl, r, o⟩ := rdI_of_own hown
  exact ⟨a, _, cap, F', rfl, r, o, hb⟩
section
variable {P : Program} {ops : Array Oper} {Q : Exit → Act → World → Prop} {a : Act} {w : World} {o : Oper} {K : Act → World → Prop}
end
theorem waits_len (x : Ag) : x.waits.length ≤ 60 := by
  unfold Ag.waits
  split
  · rename_i h
    have q := Ag.ok_granted h.1
    have q2 := waitTo_len x.taken x.upTo
    unfold Ag.upTo at q2 ⊢
    omega
  · simp
end Go.Proofs.Ytjndcfamfminkar
