/- The walks through chapter 2: the program's functions and the model's. No statement of the seat is proved here. -/
import Derived.Test.YtillnoeailnnfaaGreatBase
import Derived.Test.YtillnoeailnnfaaGreatStopMath
import Derived.Test.YtillnoeailnnfaaGreatInOf
namespace Go.Proofs.YtillnoeailnnfaaGreat
open Go.RowKit

set_option maxRecDepth 200000 in
theorem within_any (n m : Int) (w : World) (hm : 0 ≤ m) : Calls Tryz.prog 172 #[.int .i64 n, .int .i64 m] w fun e w' => e = .returned (.int .i64 (clip n m)) ∧ w' = w := by
  go_enter Tryz.func172, Tryz.ntmps172
  go_wp2
  all_goals
    go_ret
    refine ⟨ret_int ?_, rfl⟩
    unfold clip
    by_cases h1 : n < 0 <;> by_cases h2 : m < n <;> simp only [h1, h2, if_true, if_false] <;> omega
set_option maxRecDepth 200000 in
theorem l1Max_any (a b : Int) (w : World) : Calls Tryz.prog 128 #[.int .i64 a, .int .i64 b] w fun e w' => e = .returned (.int .i64 (max a b)) ∧ w' = w := by
  by_cases h : a > b
  · go_enter Tryz.func128, Tryz.ntmps128
    go_wp2
    go_ret
    exact ⟨ret_int (by omega), rfl⟩
  · go_enter Tryz.func128, Tryz.ntmps128
    go_wp2
    go_ret
    exact ⟨ret_int (by omega), rfl⟩
set_option maxRecDepth 200000 in
theorem l1Min_any (a b : Int) (w : World) : Calls Tryz.prog 127 #[.int .i64 a, .int .i64 b] w fun e w' => e = .returned (.int .i64 (min a b)) ∧ w' = w := by
  by_cases h : a < b
  · go_enter Tryz.func127, Tryz.ntmps127
    go_wp2
    go_ret
    exact ⟨ret_int (by omega), rfl⟩
  · go_enter Tryz.func127, Tryz.ntmps127
    go_wp2
    go_ret
    exact ⟨ret_int (by omega), rfl⟩
set_option maxRecDepth 200000 in
theorem l2Clip_any (n m : Int) (w : World) (hm : 0 ≤ m) : Calls Tryz.prog 158 #[.int .i64 n, .int .i64 m] w fun e w' => e = .returned (.int .i64 (clip n m)) ∧ w' = w := by
  go_enter Tryz.func158, Tryz.ntmps158
  go_wp2_with fail
  refine (l1Min_any _ _ _).mono ?_
  rintro e w1 ⟨rfl, rfl⟩
  go_wp2_with fail
  refine (l1Max_any _ _ _).mono ?_
  rintro e w1 ⟨rfl, rfl⟩
  go_wp2
  go_ret
  refine ⟨ret_int ?_, rfl⟩
  unfold clip
  by_cases h1 : n < 0 <;> by_cases h2 : m < n <;> simp only [h1, h2, if_true, if_false] <;> omega
set_option maxRecDepth 200000 in
theorem addImpl_any (a b : Int) (w : World) : Calls Tryz.prog 155 #[.int .i64 a, .int .i64 b] w fun e w' => e = .returned (.int .i64 (addN a b)) ∧ w' = w := by
  have h1 := clip_range a 1000000000 (by omega)
  have h2 := clip_range b 1000000000 (by omega)
  go_enter Tryz.func155, Tryz.ntmps155
  go_wp2_with fail
  refine (within_any _ _ _ (by omega)).mono ?_
  rintro e w1 ⟨rfl, rfl⟩
  go_wp2_with fail
  refine (within_any _ _ _ (by omega)).mono ?_
  rintro e w1 ⟨rfl, rfl⟩
  have e : ∀ x, (x = if 1000000000 < clip a 1000000000 + clip b 1000000000 then 1000000000 else clip a 1000000000 + clip b 1000000000) → x = addN a b := fun x h => h
  generalize clip a 1000000000 = x at *
  generalize clip b 1000000000 = y at *
  have E : Hid (∀ z, (z = if 1000000000 < x + y then 1000000000 else x + y) → z = addN a b) := e
  clear e
  go_wp2
  all_goals
    go_ret
    refine ⟨ret_int (E.out _ ?_), rfl⟩
    split <;> omega
set_option maxRecDepth 200000 in
theorem addSpec_any (a b : Int) (w : World) : Calls Tryz.prog 126 #[.int .i64 a, .int .i64 b] w fun e w' => e = .returned (.int .i64 (addN a b)) ∧ w' = w := by
  have h1 := clip_range a 1000000000 (by omega)
  have h2 := clip_range b 1000000000 (by omega)
  go_enter Tryz.func126, Tryz.ntmps126
  go_wp2_with fail
  refine (l2Clip_any _ _ _ (by omega)).mono ?_
  rintro e w1 ⟨rfl, rfl⟩
  go_wp2_with fail
  refine (l2Clip_any _ _ _ (by omega)).mono ?_
  rintro e w1 ⟨rfl, rfl⟩
  have e : ∀ x, (x = if 1000000000 < clip a 1000000000 + clip b 1000000000 then 1000000000 else clip a 1000000000 + clip b 1000000000) → x = addN a b := fun x h => h
  generalize clip a 1000000000 = x at *
  generalize clip b 1000000000 = y at *
  have E : Hid (∀ z, (z = if 1000000000 < x + y then 1000000000 else x + y) → z = addN a b) := e
  clear e
  go_wp2_with fail
  refine (l1Min_any _ _ _).mono ?_
  rintro e w1 ⟨rfl, rfl⟩
  go_wp2
  go_ret
  refine ⟨ret_int (E.out _ ?_), rfl⟩
  split <;> omega
end Go.Proofs.YtillnoeailnnfaaGreat
